import Derived.Test.YtnhjflebaeokeaaGreatDkAttM
section
/- Append, Write, Move, Remove and Read of a disk that has power, and of one that has none. -/
namespace Go.Proofs.YtnhjflebaeokeaaGreat
open Go.RowKit Go.Maps
variable {Xm : Nat → Prop}
attribute [local go_sem] Oper.semAt_some
theorem name32 {l : Bs} (h : nameB l = true) : l.length ≤ 32 := by
  unfold nameB at h
  rw [Bool.and_eq_true] at h
  have := of_decide_eq_true h.1
  exact this.2
theorem cell_blk {w : World} {b i : Nat} {cs : Array Value} {t : TypeId} (h : w.heap[b]? = some (.cells cs t (0, 0))) : w.cell? ⟨b, i, none⟩ = cs[i]? := by simp [World.cell?, h]
theorem nm1 (w : World) (nm : Bs) (hm : nm.length ≤ maxLen) : NmAt (w.alloc (.cells #[.string (str nm)] 9)) w.heap.size [nm] := by
  have hh := heap_alloc_new w (.cells #[.string (str nm)] 9)
  intro j hj
  match j, hj with
  | 0, _ => exact ⟨(cell_blk hh).trans rfl, hm⟩
theorem nm2 (w : World) (nm tt : Bs) (hm : nm.length ≤ maxLen) (ht : tt.length ≤ maxLen) : NmAt (w.alloc (.cells #[.string (str nm), .string (str tt)] 9)) w.heap.size [nm, tt] := by
  have hh := heap_alloc_new w (.cells #[.string (str nm), .string (str tt)] 9)
  intro j hj
  match j, hj with
  | 0, _ => exact ⟨(cell_blk hh).trans rfl, hm⟩
  | 1, _ => exact ⟨(cell_blk hh).trans rfl, ht⟩
section
variable {w : World} {B p : Nat} {A : Dk} {mn ms : Option Nat} {lv : Value} {nm tt s : Bs}
theorem live_at (h : DA Xm w B p A mn ms lv) (hd : A.dead = false) : ∀ W, Below w.heap.size w W → Calls Tryz.prog 40 #[.pointer (some ⟨p, 0, none⟩)] W fun r w' => r = .returned (.bool false) ∧ w' = W := fun W hb => by rw [← hd]; exact dead_any (h.new hb)
theorem hind1 (h : DA Xm w B p A mn ms lv) (hd : A.dead = false) (hm : nm.length ≤ maxLen) {er : Int} (he : er = if nameB nm then 0 else 110) : Calls Tryz.prog 96 #[.pointer (some ⟨p, 0, none⟩), .slice (some ⟨w.heap.size, 0, none⟩) 1 1] (w.alloc (.cells #[.string (str nm)] 9)) fun r w' => r = .returned (.int .i64 er) ∧ w' = w.alloc (.cells #[.string (str nm)] 9) :=
  hind_live (L := [nm]) _ (live_at h hd _ (one_newD _ _)) (nm1 w nm hm) (by simp) (by rw [he]; simp)
theorem hind2 (h : DA Xm w B p A mn ms lv) (hd : A.dead = false) (hm : nm.length ≤ maxLen) (ht : tt.length ≤ maxLen) {er : Int} (he : er = if nameB nm && nameB tt then 0 else 110) : Calls Tryz.prog 96 #[.pointer (some ⟨p, 0, none⟩), .slice (some ⟨w.heap.size, 0, none⟩) 2 2] (w.alloc (.cells #[.string (str nm), .string (str tt)] 9)) fun r w' => r = .returned (.int .i64 er) ∧ w' = w.alloc (.cells #[.string (str nm), .string (str tt)] 9) :=
  hind_live (L := [nm, tt]) _ (live_at h hd _ (one_newD _ _)) (nm2 w nm tt hm ht) (by simp) (by rw [he]; simp)
/-- What a change asks of the sizes. -/
structure Bd (A : Dk) (c : Chg) : Prop where
  len : A.now.length < maxLen
  fit : (ofF c.nm A.now).length + c.s.length ≤ maxLen
  n : A.n ≤ 1000000
  l : A.loose.length ≤ 1000000
theorem attempt_b {c : Chg} (h : DA Xm w B p A mn ms lv) (hB : B ≤ w.heap.size) (hqu : Quiet w A) (hc : c.ok) (hb : Bd A c) : Calls Tryz.prog 97 #[.pointer (some ⟨p, 0, none⟩), .agg #[.int .i64 c.k, .string (str c.nm), .string (str c.to), .string (str c.s)]] w fun r w' => r = .returned (.int .i64 0) ∧ DkAt Xm w' B p (A.add c) ∧ FrD Xm B w w' := attempt_any h hB hqu hc hb.len hb.fit hb.n hb.l
set_option maxRecDepth 100000 in
set_option maxHeartbeats 400000 in
theorem put_ok {k : Int} (hk : k = 0 ∨ k = 1) (h : DA Xm w B p A mn ms lv) (hB : B ≤ w.heap.size) (hqu : Quiet w A) (hd : A.dead = false) (hn : nameB nm = true) (hb : Bd A ⟨k, nm, [], s⟩) : Calls Tryz.prog 59 #[.pointer (some ⟨p, 0, none⟩), .int .i64 k, .string (str nm), .string (str s)] w fun r w' => r = .returned (.int .i64 0) ∧ DkAt Xm w' B p (A.add ⟨k, nm, [], s⟩) ∧ FrD Xm B w w' := by
  have h32 : (32 : Nat) ≤ maxLen := by decide
  have hm := Nat.le_trans (name32 hn) h32
  have hH := hind1 h hd hm (er := 0) (by rw [hn]; rfl)
  have hb0 := one_newD w (.cells #[.string (str nm)] 9)
  have hA := attempt_b (c := ⟨k, nm, [], s⟩) (h.new hb0) (Nat.le_trans hB hb0.size) (hqu.new hb0) ⟨by rcases hk with h | h <;> simp [h], name32 hn, by simp⟩ hb
  have HB : Hid (FrD Xm B w (w.alloc (.cells #[.string (str nm)] 9))) := FrD.new hb0
  clear h hn hd hb0 hb hk hqu
  go_enter Tryz.func59, Tryz.ntmps59
  go_wp2_with (first
    | (go_at_call 96; refine hH.mono ?_; rintro r w' ⟨rfl, rfl⟩)
    | (go_at_call 97; refine Calls.mono hA ?_; rintro r w2 ⟨rfl, hD2, hF2⟩; have HD2 : Hid _ := hD2; have HF2 : Hid _ := hF2; clear hD2 hF2))
  go_ret
  exact ⟨rfl, HD2.out, HB.out.trans HF2.out⟩
theorem append_ok (h : DA Xm w B p A mn ms lv) (hB : B ≤ w.heap.size) (hqu : Quiet w A) (hd : A.dead = false) (hn : nameB nm = true) (hb : Bd A ⟨0, nm, [], s⟩) : Calls Tryz.prog 139 #[.pointer (some ⟨p, 0, none⟩), .string (str nm), .string (str s)] w fun r w' => r = .returned (.int .i64 0) ∧ DkAt Xm w' B p (A.add ⟨0, nm, [], s⟩) ∧ FrD Xm B w w' := by
  have hP := put_ok (.inl rfl) h hB hqu hd hn hb
  clear h hn hd hb hqu
  go_enter Tryz.func139, Tryz.ntmps139
  go_wp2_with (go_at_call 59; refine hP.mono ?_; rintro r w2 ⟨rfl, hD2, hF2⟩; have HD2 : Hid _ := hD2; have HF2 : Hid _ := hF2; clear hD2 hF2)
  go_ret
  exact ⟨rfl, HD2.out, HF2.out⟩
theorem write_ok (h : DA Xm w B p A mn ms lv) (hB : B ≤ w.heap.size) (hqu : Quiet w A) (hd : A.dead = false) (hn : nameB nm = true) (hb : Bd A ⟨1, nm, [], s⟩) : Calls Tryz.prog 33 #[.pointer (some ⟨p, 0, none⟩), .string (str nm), .string (str s)] w fun r w' => r = .returned (.int .i64 0) ∧ DkAt Xm w' B p (A.add ⟨1, nm, [], s⟩) ∧ FrD Xm B w w' := by
  have hP := put_ok (.inr rfl) h hB hqu hd hn hb
  clear h hn hd hb hqu
  go_enter Tryz.func33, Tryz.ntmps33
  go_wp2_with (go_at_call 59; refine hP.mono ?_; rintro r w2 ⟨rfl, hD2, hF2⟩; have HD2 : Hid _ := hD2; have HF2 : Hid _ := hF2; clear hD2 hF2)
  go_ret
  exact ⟨rfl, HD2.out, HF2.out⟩
set_option maxRecDepth 100000 in
set_option maxHeartbeats 400000 in
theorem read_ok (h : DA Xm w B p A mn ms lv) (hd : A.dead = false) (hn : nameB nm = true) {er : Int} (he : er = if (getF nm A.now).isSome then 0 else 2) : Calls Tryz.prog 80 #[.pointer (some ⟨p, 0, none⟩), .string (str nm)] w fun r w' => r = .returned (.tuple #[.string (str (ofF nm A.now)), .int .i64 er]) ∧ Below w.heap.size w w' := by
  have h32 : (32 : Nat) ≤ maxLen := by decide
  have hm := Nat.le_trans (name32 hn) h32
  have hH := hind1 h hd hm (er := 0) (by rw [hn]; rfl)
  have hb0 := one_newD w (.cells #[.string (str nm)] 9)
  have hD := h.new hb0
  obtain ⟨c0, _, _, _, _, _⟩ := hD.cells
  have hlk := hD.now.look hm
  have HB : Hid (Below w.heap.size w (w.alloc (.cells #[.string (str nm)] 9))) := hb0
  obtain ⟨W, hW⟩ : ∃ W, w.alloc (.cells #[.string (str nm)] 9) = W := ⟨_, rfl⟩
  rw [hW] at hH c0 hlk HB
  have HE : Hid (er = if (getF nm A.now).isSome then 0 else 2) := he
  have HO : Hid ((getF nm A.now).isSome = false → ofF nm A.now = []) := fun e => by
    unfold ofF
    cases e2 : getF nm A.now with
    | none => rfl
    | some x => rw [e2] at e; cases e
  clear h hn hd hD hb0 he
  generalize ofF nm A.now = vv at hlk HO ⊢
  cases hs : (getF nm A.now).isSome with
  | true =>
    rw [hs] at HE hlk
    have HB9 : Hid (∀ x, Below w.heap.size w (W.alloc x)) := fun x => HB.out.trans ((one_newD _ _).mono HB.out.size)
    go_enter Tryz.func80, Tryz.ntmps80
    go_wp2_with (go_at_call 96; refine hH.mono ?_; rintro r w' ⟨rfl, rfl⟩)
    go_ret2
    exact ⟨by rw [HE.out]; rfl, HB9.out _⟩
  | false =>
    rw [hs] at HE hlk
    have HV : Hid (vv = []) := HO.out hs
    have HB9 : Hid (∀ x, Below w.heap.size w (W.alloc x)) := fun x => HB.out.trans ((one_newD _ _).mono HB.out.size)
    go_enter Tryz.func80, Tryz.ntmps80
    go_wp2_with (go_at_call 96; refine hH.mono ?_; rintro r w' ⟨rfl, rfl⟩)
    go_ret2
    exact ⟨by rw [HE.out, HV.out]; rfl, HB9.out _⟩
end
end Go.Proofs.YtnhjflebaeokeaaGreat
end

section
/- Move and Remove of a disk; calls on none. -/
namespace Go.Proofs.YtnhjflebaeokeaaGreat
open Go.RowKit Go.Maps
variable {Xm : Nat → Prop}
attribute [local go_sem] Oper.semAt_some
section
variable {w : World} {B p : Nat} {A : Dk} {mn ms : Option Nat} {lv : Value} {nm tt s : Bs}
theorem str_eqB (a b : Bs) : ((str a).toList == (str b).toList) = decide (a = b) := by rw [str_toList, str_toList, Bool.eq_iff_iff]; simp
set_option maxRecDepth 100000 in
set_option maxHeartbeats 400000 in
theorem move_ok (h : DA Xm w B p A mn ms lv) (hB : B ≤ w.heap.size) (hqu : Quiet w A) (hd : A.dead = false) (hn : nameB nm = true) (ht : nameB tt = true) (hg : (getF nm A.now).isSome = true) (hne : ¬ nm = tt) (hb : Bd A ⟨2, nm, tt, []⟩) : Calls Tryz.prog 117 #[.pointer (some ⟨p, 0, none⟩), .string (str nm), .string (str tt)] w fun r w' => r = .returned (.int .i64 0) ∧ DkAt Xm w' B p (A.add ⟨2, nm, tt, []⟩) ∧ FrD Xm B w w' := by
  have h32 : (32 : Nat) ≤ maxLen := by decide
  have hm := Nat.le_trans (name32 hn) h32
  have hH := hind2 h hd hm (Nat.le_trans (name32 ht) h32) (er := 0) (by rw [hn, ht]; rfl)
  have hb0 := one_newD w (.cells #[.string (str nm), .string (str tt)] 9)
  have hD := h.new hb0
  obtain ⟨c0, _, _, _, _, _⟩ := hD.cells
  have hlk := hD.now.look hm
  rw [hg] at hlk
  have HB : Hid (Below w.heap.size w (w.alloc (.cells #[.string (str nm), .string (str tt)] 9))) := hb0
  have HS : Hid (B ≤ w.heap.size) := hB
  have HQu : Hid (Quiet w A) := hqu
  have HK : Hid (Chg.ok ⟨2, nm, tt, []⟩) := ⟨by simp [hne], name32 hn, name32 ht⟩
  have HBd : Hid (Bd A ⟨2, nm, tt, []⟩) := hb
  obtain ⟨W, hW⟩ : ∃ W, w.alloc (.cells #[.string (str nm), .string (str tt)] 9) = W := ⟨_, rfl⟩
  rw [hW] at hH c0 hlk HB hD
  have HD : Hid (DA Xm W B p A mn ms lv) := hD
  have heq := str_eqB nm tt
  rw [decide_eq_false hne] at heq
  clear h hn hd hD hb0 ht hg hne hb hB hqu
  have HB9 : Hid (∀ x, Below w.heap.size w (W.alloc x)) := fun x => HB.out.trans ((one_newD _ _).mono HB.out.size)
  have HA : Hid (∀ x, Calls Tryz.prog 97 #[.pointer (some ⟨p, 0, none⟩), .agg #[.int .i64 2, .string (str nm), .string (str tt), .string (str [])]] (W.alloc x) fun r w' => r = .returned (.int .i64 0) ∧ DkAt Xm w' B p (A.add ⟨2, nm, tt, []⟩) ∧ FrD Xm B (W.alloc x) w') := fun x => attempt_b (c := ⟨2, nm, tt, []⟩) (HD.out.new (one_newD _ _)) (Nat.le_trans HS.out (HB9.out x).size) (HQu.out.new (HB9.out x)) HK.out HBd.out
  go_enter Tryz.func117, Tryz.ntmps117
  go_wp2_with (first
    | (go_at_call 96; refine hH.mono ?_; rintro r w' ⟨rfl, rfl⟩)
    | (go_at_call 97; refine Calls.mono (HA.out _) ?_; rintro r w2 ⟨rfl, hD2, hF2⟩; have HD2 : Hid _ := hD2; have HF2 : Hid _ := hF2; clear hD2 hF2))
  go_ret
  exact ⟨rfl, HD2.out, (FrD.new (HB9.out _)).trans HF2.out⟩
end
theorem new_any (w : World) : Calls Tryz.prog 7 #[] w fun r w' => r = .returned (.pointer (some ⟨w.heap.size, 0, none⟩)) ∧ DA (fun _ => False) w' w.heap.size w.heap.size ⟨[], [], 0, false, .slice none 0 0⟩ none none (.slice none 0 0) ∧ Below w.heap.size w w' := by
  have HN : Hid (DA (fun _ => False) (w.alloc (.cells #[.map none, .map none, .slice none 0 0, .slice none 0 0, .int .i64 0, .bool false] 83)) w.heap.size w.heap.size ⟨[], [], 0, false, .slice none 0 0⟩ none none (.slice none 0 0)) :=
    ⟨heap_alloc_new _ _, rfl, rfl, .inl ⟨rfl, rfl, rfl⟩, ⟨rfl, .inl ⟨rfl, rfl⟩⟩, fun c hc => (by cases hc), Nat.le_refl _, fun k e => (by cases e), fun k e => (by cases e), fun _ _ h => h, fun _ h => h.elim⟩
  have HB : Hid (Below w.heap.size w (w.alloc (.cells #[.map none, .map none, .slice none 0 0, .slice none 0 0, .int .i64 0, .bool false] 83))) := one_newD _ _
  go_enter Tryz.func7, Tryz.ntmps7
  go_wp2
  go_ret
  exact ⟨rfl, HN.out, HB.out⟩
/- A nil disk. -/
end Go.Proofs.YtnhjflebaeokeaaGreat
end

section
/- A change with the first of its bytes alone. -/
namespace Go.Proofs.YtnhjflebaeokeaaGreat
open Go.RowKit Go.Maps
attribute [local go_sem] Oper.semAt_some
theorem cut_str (s : Bs) (t : Int) (ht : 0 < t) : (str s).extract 0 (min t (((str s).size : Nat) : Int)).toNat = str (s.take t.toNat) := by
  rw [str_size]
  have e : (min t (s.length : Int)).toNat = min t.toNat s.length := by omega
  rw [e]
  apply ByteArray.ext
  rw [ByteArray.data_extract]
  show (s.toArray.extract 0 (min t.toNat s.length)) = (s.take t.toNat).toArray
  rw [List.extract_toArray]
  simp [List.extract]
theorem size_chg : (Tryz.prog.info? 122).map (·.size) = some 4 := by kernel_rfl
theorem set4 {w : World} {g : Nat} {c0 c1 c2 c3 : Value} {t : TypeId} (x0 x1 x2 x3 : Value) (h : w.heap[g]? = some (.cells #[c0, c1, c2, c3] t (0, 0))) : ((((w.setCell ⟨g, 0, none⟩ x0).setCell ⟨g, 1, none⟩ x1).setCell ⟨g, 2, none⟩ x2).setCell ⟨g, 3, none⟩ x3).heap[g]? = some (.cells #[x0, x1, x2, x3] t (0, 0)) := by
  have h1 : (w.setCell ⟨g, 0, none⟩ x0).heap[g]? = some (.cells #[x0, c1, c2, c3] t (0, 0)) := blk_set x0 h
  have h2 : ((w.setCell ⟨g, 0, none⟩ x0).setCell ⟨g, 1, none⟩ x1).heap[g]? = some (.cells #[x0, x1, c2, c3] t (0, 0)) := blk_set x1 h1
  have h3 : (((w.setCell ⟨g, 0, none⟩ x0).setCell ⟨g, 1, none⟩ x1).setCell ⟨g, 2, none⟩ x2).heap[g]? = some (.cells #[x0, x1, x2, c3] t (0, 0)) := blk_set x2 h2
  exact blk_set x3 h3
theorem set4_fr (w : World) (g : Nat) (x0 x1 x2 x3 : Value) : Fr w ((((w.setCell ⟨g, 0, none⟩ x0).setCell ⟨g, 1, none⟩ x1).setCell ⟨g, 2, none⟩ x2).setCell ⟨g, 3, none⟩ x3) (fun k => k = g) :=
  (((Fr.setCell (S := fun k => k = g) w ⟨g, 0, none⟩ x0 rfl).trans (Fr.setCell (S := fun k => k = g) _ ⟨g, 1, none⟩ x1 rfl) (fun _ _ h => h)).trans (Fr.setCell (S := fun k => k = g) _ ⟨g, 2, none⟩ x2 rfl) (fun _ _ h => h)).trans (Fr.setCell (S := fun k => k = g) _ ⟨g, 3, none⟩ x3 rfl) (fun _ _ h => h)
set_option maxHeartbeats 400000 in
theorem puts_any (c : Chg) (w : World) : Calls Tryz.prog 69 #[.agg #[.int .i64 c.k, .string (str c.nm), .string (str c.to), .string (str c.s)]] w fun r w' => r = .returned (.bool (c.k == 0 || c.k == 1)) ∧ Below w.heap.size w w' := by
  have HW := heap_alloc_new w (.cells #[.int .i64 c.k, .string (str c.nm), .string (str c.to), .string (str c.s)] 122)
  have HB : Hid (Below w.heap.size w (w.alloc (.cells #[.int .i64 c.k, .string (str c.nm), .string (str c.to), .string (str c.s)] 122))) := one_newD _ _
  obtain ⟨c0, _, _, _⟩ := box4 HW
  clear HW
  by_cases e : c.k = 0
  · have e0 : (c.k == 0) = true := by simpa using e
    have HE : Hid ((c.k == 0) = true) := e0
    clear e
    go_enter Tryz.func69, Tryz.ntmps69
    go_wp2
    go_ret
    exact ⟨by rw [HE.out]; rfl, HB.out⟩
  · have e0 : (c.k == 0) = false := by simpa using e
    have HE : Hid ((c.k == 0) = false) := e0
    clear e
    go_enter Tryz.func69, Tryz.ntmps69
    go_wp2
    go_ret
    exact ⟨by rw [HE.out]; rfl, HB.out⟩
set_option maxRecDepth 100000 in
set_option maxHeartbeats 400000 in
theorem torn_any (c : Chg) (t : Int) (w : World) (ht : 0 < t) : Calls Tryz.prog 70 #[.agg #[.int .i64 c.k, .string (str c.nm), .string (str c.to), .string (str c.s)], .int .i64 t] w fun r w' => r = .returned (.agg #[.int .i64 c.k, .string (str c.nm), .string (str c.to), .string (str (c.s.take t.toNat))]) ∧ Below w.heap.size w w' := by
  go_enter Tryz.func70, Tryz.ntmps70
  go_upto_region 1 with (fail)
  generalize hW : World.alloc _ _ = W
  have hB : Below w.heap.size w W := by rw [← hW]; exact (one_newD _ _).trans ((one_newD _ _).mono (by simp))
  have hQ : W.heap[w.heap.size]? = some (.cells #[.int .i64 c.k, .string (str c.nm), .string (str c.to), .string (str c.s)] 122 (0, 0)) := by rw [← hW]; exact ((one_newD _ _).block _ (by simp)).trans (heap_alloc_new _ _)
  have hR : W.heap[w.heap.size + 1]? = some (.cells #[.int .i64 0, .string (str []), .string (str []), .string (str [])] 122 (0, 0)) := by
    have e : w.heap.size + 1 = (w.alloc (.cells #[.int .i64 c.k, .string (str c.nm), .string (str c.to), .string (str c.s)] 122)).heap.size := by simp
    rw [← hW, e]
    exact heap_alloc_new _ _
  obtain ⟨c0, c1, c2, c3⟩ := box4 hQ
  have f3 : W.frozen? ⟨w.heap.size, 3, none⟩ = false := by simp [World.frozen?, hQ]
  have HX : Hid ((str c.s).extract 0 (min t (((str c.s).size : Nat) : Int)).toNat = str (c.s.take t.toNat)) := cut_str c.s t ht
  have HQ : Hid _ := hQ
  have HR : Hid _ := hR
  have HB : Hid (Below w.heap.size w W) := hB
  have hmin : ¬ min t (((str c.s).size : Nat) : Int) < 0 := by omega
  have hmin2 : ¬ (((str c.s).size : Nat) : Int) < min t (((str c.s).size : Nat) : Int) := by omega
  clear hW hQ hR hB
  go_upto_region 2 with (fail)
  rw [HX.out]
  generalize hW2 : World.setCell _ _ _ = W2
  have q2 : W2.heap[w.heap.size]? = some (.cells #[.int .i64 c.k, .string (str c.nm), .string (str c.to), .string (str (c.s.take t.toNat))] 122 (0, 0)) := by rw [← hW2]; exact blk_set _ HQ.out
  have fs : Fr W W2 (fun k => k = w.heap.size) := by rw [← hW2]; exact Fr.setCell (S := fun k => k = w.heap.size) _ ⟨w.heap.size, 3, none⟩ _ rfl
  have r2 : W2.heap[w.heap.size + 1]? = some (.cells #[.int .i64 0, .string (str []), .string (str []), .string (str [])] 122 (0, 0)) := (fs.block _ (lt_blk HR.out) (by omega)).trans HR.out
  have HB2 : Hid (Below w.heap.size w W2) := HB.out.trans (Fr.below fs HB.out.size (fun k e => by omega))
  have HR2 : Hid _ := r2
  obtain ⟨d0, d1, d2, d3⟩ := box4 q2
  obtain ⟨z0, z1, z2, z3⟩ := box4 r2
  have g0 : W2.frozen? ⟨w.heap.size + 1, 0, none⟩ = false := by simp [World.frozen?, r2]
  have g1 : W2.frozen? ⟨w.heap.size + 1, 1, none⟩ = false := by simp [World.frozen?, r2]
  have g2 : W2.frozen? ⟨w.heap.size + 1, 2, none⟩ = false := by simp [World.frozen?, r2]
  have g3 : W2.frozen? ⟨w.heap.size + 1, 3, none⟩ = false := by simp [World.frozen?, r2]
  clear hW2 q2 r2 fs HX HQ HR HB c0 c1 c2 c3 f3 hmin hmin2
  go_wp2
  refine bodyPost_ret (v := .agg #[.int .i64 c.k, .string (str c.nm), .string (str c.to), .string (str (c.s.take t.toNat))]) (results_cell_row Tryz.results70 _ _ (w.heap.size + 1) 122 _ (0, 0) _ rfl (set4 _ _ _ _ HR2.out) Tryz.underlying122 rfl size_chg) rfl ?_
  exact ⟨rfl, HB2.out.trans (Fr.below (set4_fr _ _ _ _ _ _) HB2.out.size (fun k e => by omega))⟩
end Go.Proofs.YtnhjflebaeokeaaGreat
end

section
/- The power fails: a beginning of what is loose survives. -/
namespace Go.Proofs.YtnhjflebaeokeaaGreat
open Go.RowKit Go.Maps
variable {Xm : Nat → Prop}
attribute [local go_sem] Oper.semAt_some
def cutN (keep : Int) (n : Nat) : Nat := (min (max keep 0) (n : Int)).toNat
theorem cutN_le (keep : Int) (n : Nat) : cutN keep n ≤ n := by unfold cutN; omega
theorem cutN_is (keep : Int) (n : Nat) : min (max keep 0) (n : Int) = ((cutN keep n : Nat) : Int) := by unfold cutN; omega
def tornC (c : Chg) (t : Int) : Chg := ⟨c.k, c.nm, c.to, c.s.take t.toNat⟩
/-- What is sure behind a fall. -/
def failF (l : Fl) (L : List Chg) (keep torn : Int) : Fl :=
  if h : cutN keep L.length < L.length then
    if 0 < torn ∧ (L[cutN keep L.length].k = 0 ∨ L[cutN keep L.length].k = 1) then doF (doneF l (L.take (cutN keep L.length))) (tornC L[cutN keep L.length] torn) else doneF l (L.take (cutN keep L.length))
  else doneF l (L.take (cutN keep L.length))
def Dk.fail (A : Dk) (keep torn : Int) : Dk := ⟨failF A.sure A.loose keep torn, [], A.n, true, A.pv⟩
/-- All bytes of changes. -/
def sz (L : List Chg) : Nat := (L.map (·.s.length)).sum
theorem FitF.doneF {M : Nat} {l : Fl} (h : FitF M l) (L : List Chg) : FitF (M + sz L) (doneF l L) := by
  induction L generalizing l M with
  | nil => exact h
  | cons c r ih =>
    have := ih (h.doF c)
    show FitF _ (Go.Proofs.YtnhjflebaeokeaaGreat.doneF (Go.Proofs.YtnhjflebaeokeaaGreat.doF l c) r)
    have e : M + sz (c :: r) = M + c.s.length + sz r := by simp [sz]; omega
    rw [e]
    exact this
theorem sz_take (L : List Chg) (k : Nat) (h : k < L.length) : sz (L.take k) + L[k].s.length ≤ sz L := by
  induction L generalizing k with
  | nil => simp at h
  | cons c r ih =>
    cases k with
    | zero => simp [sz]
    | succ k =>
      have := ih k (by simpa using h)
      simp only [sz, List.take_succ_cons, List.map_cons, List.sum_cons, List.getElem_cons_succ] at *
      omega
/-- Sizes of a disk. -/
structure BdA (A : Dk) (M : Nat) : Prop where
  fit : FitF M A.sure
  sum : M + sz A.loose ≤ 4611686018427387904
  len : A.sure.length + A.loose.length ≤ 1000000
  n : A.n ≤ 1000000
theorem BdA.at {A : Dk} {M : Nat} (h : BdA A M) (k : Nat) (hk : k < A.loose.length) : (doneF A.sure (A.loose.take k)).length < maxLen ∧ (ofF A.loose[k].nm (doneF A.sure (A.loose.take k))).length + A.loose[k].s.length ≤ maxLen := by
  have h1 := len_doneF (A.loose.take k) A.sure
  have h2 := (h.fit.doneF (A.loose.take k)).of A.loose[k].nm
  have h3 := sz_take A.loose k hk
  have h4 := h.len
  have h5 := h.sum
  rw [List.length_take] at h1
  unfold maxLen
  refine ⟨by omega, by omega⟩
theorem BdA.toBd {A : Dk} {M : Nat} (h : BdA A M) (c : Chg) (hc : c.s.length ≤ 4611686018427387903) (hl : A.loose.length ≤ 1000000) : Bd A c := by
  have h1 := len_doneF A.loose A.sure
  have h2 := (h.fit.doneF A.loose).of c.nm
  have h4 := h.len
  have h5 := h.sum
  have e : A.now = doneF A.sure A.loose := rfl
  rw [← e] at h1 h2
  refine ⟨by unfold maxLen; omega, by unfold maxLen; omega, h.n, hl⟩
section
variable {w : World} {B p : Nat} {A : Dk} {mn ms : Option Nat} {lv : Value}
/-- The disk behind a fall, with the map that survives and its copy. -/
theorem fail_end {V : World} {a b cn : Nat} {l : Fl} (h : DA Xm w B p A (some a) (some b) lv) (f : Fr w V (fun k => k = b)) (hs : FMap V b l) (hcn : FMap V cn l) (hne : cn ≠ b) (hcp : w.heap.size ≤ cn) (hB : B ≤ w.heap.size) :
    DA Xm (((V.setCell ⟨p, 0, none⟩ (.map (some cn))).setCell ⟨p, 2, none⟩ (.slice none 0 0)).setCell ⟨p, 5, none⟩ (.bool true)) B p ⟨l, [], A.n, true, A.pv⟩ (some cn) (some b) (.slice none 0 0) ∧ FrD Xm B w (((V.setCell ⟨p, 0, none⟩ (.map (some cn))).setCell ⟨p, 2, none⟩ (.slice none 0 0)).setCell ⟨p, 5, none⟩ (.bool true)) := by
  have hpb : p ≠ b := fun e => h.pmap.2 (by rw [e])
  have hp := h.plt
  have p1 := (f.block p hp hpb).trans h.blk
  have p2 := blk_set (i := 0) (.map (some cn)) p1
  have p3 := blk_set (i := 2) (.slice none 0 0) p2
  have p4 := blk_set (i := 5) (.bool true) p3
  have fs : Fr V (((V.setCell ⟨p, 0, none⟩ (.map (some cn))).setCell ⟨p, 2, none⟩ (.slice none 0 0)).setCell ⟨p, 5, none⟩ (.bool true)) (fun k => k = p) := ((Fr.setCell (S := fun k => k = p) V ⟨p, 0, none⟩ _ rfl).trans (Fr.setCell (S := fun k => k = p) _ ⟨p, 2, none⟩ _ rfl) (fun _ _ h => h)).trans (Fr.setCell (S := fun k => k = p) _ ⟨p, 5, none⟩ _ rfl) (fun _ _ h => h)
  refine ⟨⟨p4, ?_, ?_, .inr ⟨cn, b, rfl, rfl, hne⟩, ⟨rfl, .inl ⟨rfl, rfl⟩⟩, fun c hc => (by cases hc), h.hp, fun k e => ?_, h.hs, fun k e hx => ?_, fun k hk => Nat.lt_of_lt_of_le (h.lx k hk) (Nat.le_trans f.size fs.size)⟩, ?_⟩
  · exact hcn.same (fs.block cn hcn.lt (by omega))
  · exact hs.same (fs.block b hs.lt (fun e => hpb e.symm))
  · cases e; omega
  · rcases e with e | e | e | e
    · exact h.nx k (.inl e) hx
    · cases e
      have := h.lx _ hx
      omega
    · exact h.nx k (.inr (.inr (.inl e))) hx
    · cases e
  · have tagB : DkB Xm w b := ⟨.inl (map_tag h.sure rfl), h.nx b (.inr (.inr (.inl rfl)))⟩
    refine ⟨fs.os.trans f.os, fs.tape.trans f.tape, fs.output.trans f.output, Nat.le_trans f.size fs.size, fun k hk hn => ?_⟩
    have kb : k ≠ b := fun e => hn ⟨by rw [e]; exact h.hs b rfl, by rw [e]; exact tagB⟩
    have kp : k ≠ p := fun e => hn ⟨by rw [e]; exact h.hp, by rw [e]; exact ⟨.inr ⟨_, _, _, h.blk, .inl rfl⟩, h.nx p (.inl rfl)⟩⟩
    have := f.size
    exact (fs.block k (by omega) kp).trans (f.block k hk kb)
theorem fail_none (h : DA Xm w B p A none none lv) {V : World} (f : Below w.heap.size w V) : DA Xm (((V.setCell ⟨p, 0, none⟩ (.map none)).setCell ⟨p, 2, none⟩ (.slice none 0 0)).setCell ⟨p, 5, none⟩ (.bool true)) B p ⟨[], [], A.n, true, A.pv⟩ none none (.slice none 0 0) ∧ FrD Xm B w (((V.setCell ⟨p, 0, none⟩ (.map none)).setCell ⟨p, 2, none⟩ (.slice none 0 0)).setCell ⟨p, 5, none⟩ (.bool true)) := by
  have hD := h.new f
  have p2 := blk_set (i := 0) (.map none) hD.blk
  have p3 := blk_set (i := 2) (.slice none 0 0) p2
  have p4 := blk_set (i := 5) (.bool true) p3
  have fs : Fr V (((V.setCell ⟨p, 0, none⟩ (.map none)).setCell ⟨p, 2, none⟩ (.slice none 0 0)).setCell ⟨p, 5, none⟩ (.bool true)) (fun k => k = p) := ((Fr.setCell (S := fun k => k = p) V ⟨p, 0, none⟩ _ rfl).trans (Fr.setCell (S := fun k => k = p) _ ⟨p, 2, none⟩ _ rfl) (fun _ _ h => h)).trans (Fr.setCell (S := fun k => k = p) _ ⟨p, 5, none⟩ _ rfl) (fun _ _ h => h)
  exact ⟨⟨p4, rfl, rfl, .inl ⟨rfl, rfl, rfl⟩, ⟨rfl, .inl ⟨rfl, rfl⟩⟩, fun c hc => (by cases hc), h.hp, fun k e => (by cases e), fun k e => (by cases e), fun k e => (by
    rcases e with e | e | e | e
    · exact h.nx k (.inl e)
    · cases e
    · cases e
    · cases e), fun k hk => Nat.lt_of_lt_of_le (hD.lx k hk) fs.size⟩, (FrD.new f).trans (hD.frP fs (fun _ e => e))⟩
set_option maxRecDepth 100000 in
set_option maxHeartbeats 400000 in
theorem fail_nil (h : DA Xm w B p A none none lv) (keep tn : Int) : Calls Tryz.prog 41 #[.pointer (some ⟨p, 0, none⟩), .int .i64 keep, .int .i64 tn] w fun r w' => r = .returned (.tuple #[]) ∧ DkAt Xm w' B p (A.fail keep tn) ∧ FrD Xm B w w' := by
  have hloose : A.loose = [] := by
    rcases h.two with ⟨_, _, e⟩ | ⟨a', b', e, _⟩
    · exact e
    · cases e
  have hsure : A.sure = [] := h.sure
  have eF : A.fail keep tn = ⟨[], [], A.n, true, A.pv⟩ := by
    unfold Dk.fail failF cutN
    simp [hloose, hsure, doneF]
  have HE : Hid (A.fail keep tn = ⟨[], [], A.n, true, A.pv⟩) := eF
  have hcl := fun W => AnyW.maps_Clone_nil layMClone W
  have hcl' : ∀ W, Calls Tryz.prog 71 #[.map none] W fun e w' => e = .returned (.map none) ∧ w' = W := hcl
  clear hcl
  have hk : min (max keep 0) (0 : Int) = 0 := by omega
  have HN := fail_none h (V := w) (Below.refl _ _)
  have HD : Hid _ := HN
  obtain ⟨c0, c1, c2, c3, c4, c5⟩ := h.cells
  have f0 := h.free 0
  have f2 := h.free 2
  have f5 := h.free 5
  have hrow := h.row
  rw [hloose] at hrow
  clear h HN eF
  have hrow2 := hrow.2
  clear hrow
  rcases hrow2 with ⟨rfl, _⟩ | ⟨g, cap, cur, rfl, _, _, _, hcap, _⟩
  all_goals
    go_enter Tryz.func41, Tryz.ntmps41
    go_wp2
    go_loop [7, 23] (fun _ i => i = .int .i64 0) (fun _ _ => 0)
    case atStart => rfl
    case round =>
      obtain rfl := hrel
      go_wp2_with (go_at_call 71; refine (hcl' _).mono ?_; rintro r w ⟨rfl, rfl⟩)
      go_end0
      rw [HE.out]
      exact ⟨rfl, ⟨_, _, _, HD.out.1⟩, HD.out.2⟩
theorem clone_any {b : Nat} {l : Fl} (h : FMap w b l) : Calls Tryz.prog 71 #[.map (some b)] w fun r w' => r = .returned (.map (some w.heap.size)) ∧ FMap w' w.heap.size l ∧ FMap w' b l ∧ Below w.heap.size w w' := by
  obtain ⟨hs, D, ⟨n, h⟩, hat⟩ := h
  refine Calls.mono (AnyW.maps_Clone_owns layMClone 9 fileR b n D w h) ?_
  rintro r w' ⟨rfl, h1, h2, hb⟩
  exact ⟨rfl, ⟨hs, D, ⟨n, h1⟩, hat⟩, ⟨hs, D, ⟨n, h2⟩, hat⟩, hb⟩
/-- The last region of fail. -/
theorem fail_tail {V : World} {a b : Nat} {l : Fl} (h : DA Xm w B p A (some a) (some b) lv) (f : Fr w V (fun k => k = b)) (hs : FMap V b l) (hB : B ≤ w.heap.size) : ∀ V', FMap V' V.heap.size l → FMap V' b l → Below V.heap.size V V' → V'.cell? ⟨p, 0, none⟩ = some (.map (some a)) ∧ V'.cell? ⟨p, 2, none⟩ = some lv ∧ V'.cell? ⟨p, 5, none⟩ = some (.bool A.dead) ∧ V'.frozen? ⟨p, 0, none⟩ = false ∧ V'.frozen? ⟨p, 2, none⟩ = false ∧ V'.frozen? ⟨p, 5, none⟩ = false ∧ DA Xm (((V'.setCell ⟨p, 0, none⟩ (.map (some V.heap.size))).setCell ⟨p, 2, none⟩ (.slice none 0 0)).setCell ⟨p, 5, none⟩ (.bool true)) B p ⟨l, [], A.n, true, A.pv⟩ (some V.heap.size) (some b) (.slice none 0 0) ∧ FrD Xm B w (((V'.setCell ⟨p, 0, none⟩ (.map (some V.heap.size))).setCell ⟨p, 2, none⟩ (.slice none 0 0)).setCell ⟨p, 5, none⟩ (.bool true)) := by
  intro V' h1 h2 hb
  have hpb : p ≠ b := fun e => h.pmap.2 (by rw [e])
  have f' : Fr w V' (fun k => k = b) := f.trans (Fr.ofBelow hb _) (fun _ _ h => h)
  have pb := (f'.block p h.plt hpb).trans h.blk
  have hE := fail_end h f' h2 h1 (by have := hs.lt; omega) f.size hB
  exact ⟨by simp [World.cell?, pb], by simp [World.cell?, pb], by simp [World.cell?, pb], by simp [World.frozen?, pb], by simp [World.frozen?, pb], by simp [World.frozen?, pb], hE.1, hE.2⟩
set_option maxRecDepth 100000 in
set_option maxHeartbeats 400000 in
theorem fail_empty {a b : Nat} (h : DA Xm w B p A (some a) (some b) lv) (hB : B ≤ w.heap.size) (hloose : A.loose = []) (keep tn : Int) : Calls Tryz.prog 41 #[.pointer (some ⟨p, 0, none⟩), .int .i64 keep, .int .i64 tn] w fun r w' => r = .returned (.tuple #[]) ∧ DkAt Xm w' B p (A.fail keep tn) ∧ FrD Xm B w w' := by
  have HE : Hid (A.fail keep tn = ⟨A.sure, [], A.n, true, A.pv⟩) := by
    show _ = _
    unfold Dk.fail failF cutN
    simp [hloose, doneF]
  have hk : min (max keep 0) (0 : Int) = 0 := by omega
  have hfs : FMap w b A.sure := h.sure
  have hcl := clone_any hfs
  have HT := fail_tail h (Fr.refl w (fun k => k = b)) hfs hB
  have HD : Hid _ := HT
  obtain ⟨c0, c1, c2, c3, c4, c5⟩ := h.cells
  have hrow := h.row
  rw [hloose] at hrow
  have hrow2 := hrow.2
  clear hrow h HT hfs
  rcases hrow2 with ⟨rfl, _⟩ | ⟨g, cap, cur, rfl, _, _, _, hcap, _⟩
  all_goals
    go_enter Tryz.func41, Tryz.ntmps41
    go_wp2
    go_loop [7, 23] (fun _ i => i = .int .i64 0) (fun _ _ => 0)
    case atStart => rfl
    case round =>
      obtain rfl := hrel
      go_wp2_with (go_at_call 71; refine hcl.mono ?_; rintro r V' ⟨rfl, m1, m2, mb⟩; obtain ⟨d0, d2, d5, g0, g2, g5, hE⟩ := HD.out V' m1 m2 mb; have HEE : Hid _ := hE; clear hE m1 m2 mb)
      go_end0
      rw [HE.out]
      exact ⟨rfl, ⟨_, _, _, HEE.out.1⟩, HEE.out.2⟩
end
end Go.Proofs.YtnhjflebaeokeaaGreat
end

section
/- The power fails, where something is loose. -/
namespace Go.Proofs.YtnhjflebaeokeaaGreat
open Go.RowKit Go.Maps
variable {Xm : Nat → Prop}
attribute [local go_sem] Oper.semAt_some
theorem doneF_take (l : Fl) (L : List Chg) (k : Nat) (h : k < L.length) : doneF l (L.take (k + 1)) = doF (doneF l (L.take k)) L[k] := by
  rw [List.take_succ_eq_append_getElem h, doneF_snoc]
section
variable {w : World} {B p : Nat} {A : Dk} {lv : Value}
set_option linter.unusedSimpArgs false in
set_option maxRecDepth 100000 in
set_option maxHeartbeats 4000000 in
theorem fail_some {a b M : Nat} (h : DA Xm w B p A (some a) (some b) lv) (hB : B ≤ w.heap.size) (hbd : BdA A M) (hL : 0 < A.loose.length) (keep tn : Int) : Calls Tryz.prog 41 #[.pointer (some ⟨p, 0, none⟩), .int .i64 keep, .int .i64 tn] w fun r w' => r = .returned (.tuple #[]) ∧ DkAt Xm w' B p (A.fail keep tn) ∧ FrD Xm B w w' := by
  obtain ⟨ao, cp, rfl⟩ := h.shape
  obtain ⟨g, rfl, _, hcap, hcells⟩ := chrow_at h.row hL
  obtain ⟨c0, c1, c2, c3, c4, c5⟩ := h.cells
  have hk := cutN_is keep A.loose.length
  have HKle : Hid (cutN keep A.loose.length ≤ A.loose.length) := cutN_le _ _
  have HFail : Hid (A.fail keep tn = ⟨failF A.sure A.loose keep tn, [], A.n, true, A.pv⟩) := rfl
  have HF1 : Hid (∀ hh : cutN keep A.loose.length < A.loose.length, 0 < tn → (A.loose[cutN keep A.loose.length].k == 0 || A.loose[cutN keep A.loose.length].k == 1) = true → failF A.sure A.loose keep tn = doF (doneF A.sure (A.loose.take (cutN keep A.loose.length))) (tornC A.loose[cutN keep A.loose.length] tn)) := fun hh h1 h2 => by
    unfold failF
    rw [dif_pos hh, if_pos ⟨h1, by simpa using h2⟩]
  have HF2 : Hid (∀ hh : cutN keep A.loose.length < A.loose.length, 0 < tn → (A.loose[cutN keep A.loose.length].k == 0 || A.loose[cutN keep A.loose.length].k == 1) = false → failF A.sure A.loose keep tn = doneF A.sure (A.loose.take (cutN keep A.loose.length))) := fun hh h1 h2 => by
    unfold failF
    rw [dif_pos hh, if_neg (fun e => by have := e.2; simp at h2; omega)]
  have HF3 : Hid (¬ (cutN keep A.loose.length < A.loose.length ∧ 0 < tn) → failF A.sure A.loose keep tn = doneF A.sure (A.loose.take (cutN keep A.loose.length))) := fun hh => by
    unfold failF
    by_cases h1 : cutN keep A.loose.length < A.loose.length
    · rw [dif_pos h1, if_neg (fun e => hh ⟨h1, e.1⟩)]
    · rw [dif_neg h1]
  have hpb : p ≠ b := fun e => h.pmap.2 (by rw [e])
  have hgb : g ≠ b := fun e => (h.mrow (k := g) rfl).2 (by rw [e])
  have HD : Hid (DA Xm w B p A (some a) (some b) (.slice (some ⟨g, 0, none⟩) A.loose.length cp)) := h
  have HBd : Hid (BdA A M) := hbd
  have HS : Hid (B ≤ w.heap.size) := hB
  have HC : Hid (∀ j (hj : j < A.loose.length), w.cell? ⟨g, j * 4, none⟩ = some (.int .i64 A.loose[j].k) ∧ w.cell? ⟨g, j * 4 + 1, none⟩ = some (.string (str A.loose[j].nm)) ∧ w.cell? ⟨g, j * 4 + 2, none⟩ = some (.string (str A.loose[j].to)) ∧ w.cell? ⟨g, j * 4 + 3, none⟩ = some (.string (str A.loose[j].s))) := hcells
  have hfs : FMap w b A.sure := h.sure
  have HM0 : Hid (FMap w b A.sure) := hfs
  have HOk : Hid (∀ j (hj : j < A.loose.length), A.loose[j].ok) := fun j hj => h.ok _ (List.getElem_mem hj)
  have HN6 : Hid (A.loose.length ≤ 1000000) := by have := hbd.len; show A.loose.length ≤ 1000000; omega
  clear h hbd hB hcells hfs
  obtain ⟨L, hLe⟩ : ∃ L, A.loose = L := ⟨_, rfl⟩
  obtain ⟨K, hKe⟩ : ∃ K, cutN keep A.loose.length = K := ⟨_, rfl⟩
  rw [hLe] at hk c2 hL HC HOk hcap
  rw [hKe] at HKle HF1 HF2 HF3
  rw [← hLe, hKe, hLe] at hk
  have HLe : Hid (A.loose = L) := hLe
  clear hKe
  obtain ⟨n0, hn0⟩ : ∃ n0, L.length = n0 := ⟨_, rfl⟩
  have HN0 : Hid (L.length = n0) := hn0
  rw [hn0] at hk c2 hL hcap
  rw [hLe, hn0] at HKle
  have HKl : Hid (K ≤ n0) := HKle.out
  have hKl : K ≤ n0 := HKle.out
  clear hn0 hLe HKle
  go_enter Tryz.func41, Tryz.ntmps41
  go_wp2
  go_loopw [7, 23] (fun _ i wr => ∃ k : Nat, k ≤ K ∧ i = .int .i64 k ∧ FMap wr b (doneF A.sure (L.take k)) ∧ Fr w wr (fun j => j = b)) (fun _ i _ => K - (intOf i).toNat)
  case atStart => exact ⟨0, Nat.zero_le _, rfl, HM0.out, Fr.refl _ _⟩
  case round =>
    obtain ⟨k, hkK, rfl, hm, hf⟩ := hrel
    have HM : Hid (FMap wr b (doneF A.sure (L.take k))) := hm
    have HF : Hid (Fr w wr (fun j => j = b)) := hf
    have d1 := fr_cellD hf hpb c1
    have d2 := fr_cellD hf hpb c2
    clear hm hf
    by_cases hlt : k < K
    · have HLt : Hid (k < K) := hlt
      have hkl : k < L.length := by have := HN0.out; omega
      obtain ⟨z0, z1, z2, z3⟩ := HC.out k hkl
      replace z0 := fr_cellD HF.out hgb z0
      replace z1 := fr_cellD HF.out hgb z1
      replace z2 := fr_cellD HF.out hgb z2
      replace z3 := fr_cellD HF.out hgb z3
      have HY : Hid (doneF A.sure (L.take (k + 1)) = doF (doneF A.sure (L.take k)) L[k]) := doneF_take _ _ _ hkl
      have HOy : Hid L[k].ok := HOk.out k hkl
      have HBy : Hid ((doneF A.sure (L.take k)).length < maxLen ∧ (ofF L[k].nm (doneF A.sure (L.take k))).length + L[k].s.length ≤ maxLen) := by
        have hb := HBd.out.at k (by rw [HLe.out]; exact hkl)
        simp only [HLe.out] at hb
        exact hb
      generalize L[k] = y at z0 z1 z2 z3 HY HOy HBy
      clear hkl
      go_upto_region 4 with (fail)
      generalize hV : World.alloc _ _ = V
      have hQ : V.heap[wr.heap.size]? = some (.cells #[.int .i64 y.k, .string (str y.nm), .string (str y.to), .string (str y.s)] 122 (0, 0)) := by rw [← hV]; exact heap_alloc_new wr _
      have bV : Below wr.heap.size wr V := by rw [← hV]; exact one_newD wr _
      have bVd : Below wr.heap.size wr V.drew := bV.drew
      have hQd : V.drew.heap[wr.heap.size]? = _ := hQ
      obtain ⟨Vd, hVd⟩ : ∃ Vd, V.drew = Vd := ⟨_, rfl⟩
      rw [hVd] at bVd hQd
      obtain ⟨q, hq⟩ : ∃ q, wr.heap.size = q := ⟨_, rfl⟩
      have HFV : Hid (Fr w Vd (fun j => j = b)) := HF.out.trans (Fr.ofBelow bVd _) (fun _ _ h => h)
      have hMV : FMap Vd b (doneF A.sure (L.take k)) := HM.out.new bVd
      have HDO : Hid (Calls Tryz.prog 68 #[.agg #[.int .i64 y.k, .string (str y.nm), .string (str y.to), .string (str y.s)], .map (some b)] Vd fun r w' => r = .returned (.tuple #[]) ∧ FMap w' b (doF (doneF A.sure (L.take k)) y) ∧ Fr Vd w' (fun k => k = b)) := do_any hMV y HOy.out HBy.out.1 HBy.out.2
      have y1 := fr_cellD HFV.out hpb c1
      rw [hq] at hQd ⊢
      obtain ⟨x0, x1, x2, x3⟩ := box4 hQd
      clear hQ bV bVd hQd hMV hV hq
      refine wp_calmD ?_
      refine wp_region_L [5] (fun w' : World => w'.cell? ⟨p, 1, none⟩ = some (.map (some b)) ∧ w'.cell? ⟨q, 0, none⟩ = some (.int .i64 y.k) ∧ w'.cell? ⟨q, 1, none⟩ = some (.string (str y.nm)) ∧ w'.cell? ⟨q, 2, none⟩ = some (.string (str y.to)) ∧ w'.cell? ⟨q, 3, none⟩ = some (.string (str y.s))) (by kernel_rfl) ?_
      rw [hVd]
      clear hVd
      have hS : (fun w' : World => w'.cell? ⟨p, 1, none⟩ = some (.map (some b)) ∧ w'.cell? ⟨q, 0, none⟩ = some (.int .i64 y.k) ∧ w'.cell? ⟨q, 1, none⟩ = some (.string (str y.nm)) ∧ w'.cell? ⟨q, 2, none⟩ = some (.string (str y.to)) ∧ w'.cell? ⟨q, 3, none⟩ = some (.string (str y.s))) Vd := ⟨y1, x0, x1, x2, x3⟩
      refine wpAnyL_take (i := 0) 27 (v := .agg #[.int .i64 y.k, .string (str y.nm), .string (str y.to), .string (str y.s)]) rfl rfl (by kernel_rfl) (by kernel_rfl) (by kernel_rfl) (by kernel_rfl) (by kernel_rfl) (by kernel_rfl) (fun _ _ _ h => h) hS (by rfl) (by intro w' hSw; obtain ⟨y1, z0, z1, z2, z3⟩ := hSw; go_simp <;> with_reducible rfl) ?_
      simp only [Act.put, List.setIfInBounds_toArray, List.set_cons_zero, List.set_cons_succ]
      refine wpAnyL_take (i := 1) 28 (v := .pointer (some ⟨p, 0, none⟩)) rfl rfl (by kernel_rfl) (by kernel_rfl) (by kernel_rfl) (by kernel_rfl) (by kernel_rfl) (by kernel_rfl) (fun _ _ _ h => h) hS (by rfl) (by intro w' hSw; obtain ⟨y1, z0, z1, z2, z3⟩ := hSw; go_simp <;> with_reducible rfl) ?_
      simp only [Act.put, List.setIfInBounds_toArray, List.set_cons_zero, List.set_cons_succ]
      refine wpAnyL_take (i := 2) 29 (v := .pointer (some ⟨p, 0, none⟩)) rfl rfl (by kernel_rfl) (by kernel_rfl) (by kernel_rfl) (by kernel_rfl) (by kernel_rfl) (by kernel_rfl) (fun _ _ _ h => h) hS (by rfl) (by intro w' hSw; obtain ⟨y1, z0, z1, z2, z3⟩ := hSw; go_simp <;> with_reducible rfl) ?_
      simp only [Act.put, List.setIfInBounds_toArray, List.set_cons_zero, List.set_cons_succ]
      refine wpAnyL_take (i := 3) 30 (v := .pointer (some ⟨p, 1, none⟩)) rfl rfl (by kernel_rfl) (by kernel_rfl) (by kernel_rfl) (by kernel_rfl) (by kernel_rfl) (by kernel_rfl) (fun _ _ _ h => h) hS (by rfl) (by intro w' hSw; obtain ⟨y1, z0, z1, z2, z3⟩ := hSw; go_simp <;> with_reducible rfl) ?_
      simp only [Act.put, List.setIfInBounds_toArray, List.set_cons_zero, List.set_cons_succ]
      refine wpAnyL_take (i := 4) 31 (v := .map (some b)) rfl rfl (by kernel_rfl) (by kernel_rfl) (by kernel_rfl) (by kernel_rfl) (by kernel_rfl) (by kernel_rfl) (fun _ _ _ h => h) hS (by rfl) (by intro w' hSw; obtain ⟨y1, z0, z1, z2, z3⟩ := hSw; go_simp <;> with_reducible rfl) ?_
      simp only [Act.put, List.setIfInBounds_toArray, List.set_cons_zero, List.set_cons_succ]
      refine wpAnyL_one (i := 5) (by kernel_rfl) rfl (fun Ka hKa => ?_)
      go_simp
      refine Calls.mono HDO.out ?_
      rintro r w7 ⟨rfl, m7, f7⟩
      refine hKa.out _ _ (fun h => absurd h (Bool.eq_false_iff.1 (by kernel_rfl))) ?_
      clear hKa Ka HDO
      refine wpAnyL_done (by kernel_rfl) ?_ _
      have HR : Hid (FMap w7 b (doneF A.sure (L.take (k + 1))) ∧ Fr w w7 (fun j => j = b)) := ⟨by rw [HY.out]; exact m7, HFV.out.trans f7 (fun _ _ h => h)⟩
      clear m7 f7 hS y1 x0 x1 x2 x3 z0 z1 z2 z3 d1 d2
      have hk6 : k ≤ 1000000 := by
        have h1 := HLt.out
        have h2 := HKl.out
        have h3 := HN6.out
        rw [HLe.out, HN0.out] at h3
        omega
      go_wp2
      go_roundw
      case rel => exact ⟨k + 1, HLt.out, by go_num, HR.out.1, HR.out.2⟩
      case measure => have := HLt.out; simp [intOf]; omega
    · obtain rfl : k = K := by omega
      clear hlt hkK
      have hdead := (HF.out.block p HD.out.plt hpb).trans HD.out.blk
      by_cases hc : k < n0 ∧ 0 < tn
      · obtain ⟨hkn, htn⟩ := hc
        have hkl : k < L.length := by have := HN0.out; omega
        obtain ⟨z0, z1, z2, z3⟩ := HC.out k hkl
        replace z0 := fr_cellD HF.out hgb z0
        replace z1 := fr_cellD HF.out hgb z1
        replace z2 := fr_cellD HF.out hgb z2
        replace z3 := fr_cellD HF.out hgb z3
        have hkl' : k < A.loose.length := by rw [HLe.out]; exact hkl
        have HOy : Hid L[k].ok := HOk.out k hkl
        have HBy : Hid ((doneF A.sure (L.take k)).length < maxLen ∧ (ofF L[k].nm (doneF A.sure (L.take k))).length + L[k].s.length ≤ maxLen) := by
          have hb := HBd.out.at k hkl'
          simp only [HLe.out] at hb
          exact hb
        have HG1 : Hid ((L[k].k == 0 || L[k].k == 1) = true → failF A.sure A.loose keep tn = doF (doneF A.sure (L.take k)) (tornC L[k] tn)) := by
          have hh := HF1.out hkl' htn
          simp only [HLe.out] at hh ⊢
          exact hh
        have HG2 : Hid ((L[k].k == 0 || L[k].k == 1) = false → failF A.sure A.loose keep tn = doneF A.sure (L.take k)) := by
          have hh := HF2.out hkl' htn
          simp only [HLe.out] at hh ⊢
          exact hh
        have hdm : ¬ tn ≤ 0 := by omega
        generalize L[k] = y at z0 z1 z2 z3 HOy HBy HG1 HG2
        clear hkl hkl' hdead
        have hpu := puts_any y wr
        cases hpb2 : (y.k == 0 || y.k == 1) with
        | false =>
          rw [hpb2] at hpu
          have HFn : Hid (failF A.sure A.loose keep tn = doneF A.sure (L.take k)) := HG2.out hpb2
          clear hpb2
          have HT : Hid (∀ V, Below wr.heap.size wr V → _) := fun V hV => fail_tail HD.out (HF.out.trans (Fr.ofBelow hV (fun j => j = b)) (fun _ _ h => h)) (HM.out.new hV) HS.out
          have HCL : Hid (∀ V, Below wr.heap.size wr V → Calls Tryz.prog 71 #[.map (some b)] V fun r w' => r = .returned (.map (some V.heap.size)) ∧ FMap w' V.heap.size (doneF A.sure (L.take k)) ∧ FMap w' b (doneF A.sure (L.take k)) ∧ Below V.heap.size V w') := fun V hV => clone_any (HM.out.new hV)
          go_wp2_with (first
            | (go_at_call 69; refine hpu.mono ?_; rintro r w8 ⟨rfl, hb8⟩; have HB8 : Hid _ := hb8; have d1 := (hb8.cell (p := ⟨p, 1, none⟩) (lt_cellD d1)).trans d1; clear hb8)
            | (go_at_call 71; refine Calls.mono (HCL.out _ HB8.out) ?_; rintro r V' ⟨rfl, m1, m2, mb⟩; obtain ⟨e0, e2, e5, g0, g2, g5, hE⟩ := HT.out _ HB8.out V' m1 m2 mb; have HEE : Hid _ := hE; clear hE m1 m2 mb))
          go_end0
          rw [HFail.out, HFn.out]
          exact ⟨rfl, ⟨_, _, _, HEE.out.1⟩, HEE.out.2⟩
        | true =>
          rw [hpb2] at hpu
          have HFn : Hid (failF A.sure A.loose keep tn = doF (doneF A.sure (L.take k)) (tornC y tn)) := HG1.out hpb2
          clear hpb2
          go_upto_region 7 with (go_at_call 69; refine hpu.mono ?_; rintro r w8 ⟨rfl, hb8⟩; have HB8 : Hid _ := hb8; clear hb8)
          have bVd : Below wr.heap.size wr w8.drew := HB8.out.drew
          obtain ⟨Vd, hVd⟩ : ∃ Vd, w8.drew = Vd := ⟨_, rfl⟩
          rw [hVd] at bVd
          have HFV : Hid (Fr w Vd (fun j => j = b)) := HF.out.trans (Fr.ofBelow bVd _) (fun _ _ h => h)
          have HMV : Hid (FMap Vd b (doneF A.sure (L.take k))) := HM.out.new bVd
          have hto := torn_any y tn Vd htn
          have y1 := fr_cellD HFV.out hpb c1
          have y2 := fr_cellD HFV.out hpb c2
          replace z0 := (bVd.cell (p := ⟨g, k * 4, none⟩) (lt_cellD z0)).trans z0
          replace z1 := (bVd.cell (p := ⟨g, k * 4 + 1, none⟩) (lt_cellD z1)).trans z1
          replace z2 := (bVd.cell (p := ⟨g, k * 4 + 2, none⟩) (lt_cellD z2)).trans z2
          replace z3 := (bVd.cell (p := ⟨g, k * 4 + 3, none⟩) (lt_cellD z3)).trans z3
          have HDO : Hid (∀ V9, Below Vd.heap.size Vd V9 → Calls Tryz.prog 68 #[.agg #[.int .i64 y.k, .string (str y.nm), .string (str y.to), .string (str (y.s.take tn.toNat))], .map (some b)] V9 fun r w' => r = .returned (.tuple #[]) ∧ FMap w' b (doF (doneF A.sure (L.take k)) (tornC y tn)) ∧ Fr V9 w' (fun k => k = b)) := fun V9 h9 => do_any (HMV.out.new h9) (tornC y tn) ⟨HOy.out.1, HOy.out.2⟩ HBy.out.1 (Nat.le_trans (Nat.add_le_add_left (by show (y.s.take tn.toNat).length ≤ y.s.length; rw [List.length_take]; exact Nat.min_le_right _ _) _) HBy.out.2)
          clear bVd d1 d2
          refine wp_calmD ?_
          refine wp_region_L [13] (fun w' : World => w'.cell? ⟨p, 1, none⟩ = some (.map (some b)) ∧ w'.cell? ⟨p, 2, none⟩ = some (.slice (some ⟨g, 0, none⟩) n0 cp) ∧ w'.cell? ⟨g, k * 4, none⟩ = some (.int .i64 y.k) ∧ w'.cell? ⟨g, k * 4 + 1, none⟩ = some (.string (str y.nm)) ∧ w'.cell? ⟨g, k * 4 + 2, none⟩ = some (.string (str y.to)) ∧ w'.cell? ⟨g, k * 4 + 3, none⟩ = some (.string (str y.s))) (by kernel_rfl) ?_
          rw [hVd]
          clear hVd
          have hS : (fun w' : World => w'.cell? ⟨p, 1, none⟩ = some (.map (some b)) ∧ w'.cell? ⟨p, 2, none⟩ = some (.slice (some ⟨g, 0, none⟩) n0 cp) ∧ w'.cell? ⟨g, k * 4, none⟩ = some (.int .i64 y.k) ∧ w'.cell? ⟨g, k * 4 + 1, none⟩ = some (.string (str y.nm)) ∧ w'.cell? ⟨g, k * 4 + 2, none⟩ = some (.string (str y.to)) ∧ w'.cell? ⟨g, k * 4 + 3, none⟩ = some (.string (str y.s))) Vd := ⟨y1, y2, z0, z1, z2, z3⟩
          refine wpAnyL_take (i := 0) 55 (v := .pointer (some ⟨p, 0, none⟩)) rfl rfl (by kernel_rfl) (by kernel_rfl) (by kernel_rfl) (by kernel_rfl) (by kernel_rfl) (by kernel_rfl) (fun _ _ _ h => h) hS (by rfl) (by intro w' hSw; obtain ⟨y1, y2, z0, z1, z2, z3⟩ := hSw; go_simp <;> with_reducible rfl) ?_
          simp only [Act.put, List.setIfInBounds_toArray, List.set_cons_zero, List.set_cons_succ]
          refine wpAnyL_take (i := 1) 56 (v := .pointer (some ⟨p, 0, none⟩)) rfl rfl (by kernel_rfl) (by kernel_rfl) (by kernel_rfl) (by kernel_rfl) (by kernel_rfl) (by kernel_rfl) (fun _ _ _ h => h) hS (by rfl) (by intro w' hSw; obtain ⟨y1, y2, z0, z1, z2, z3⟩ := hSw; go_simp <;> with_reducible rfl) ?_
          simp only [Act.put, List.setIfInBounds_toArray, List.set_cons_zero, List.set_cons_succ]
          refine wpAnyL_take (i := 2) 57 (v := .pointer (some ⟨p, 2, none⟩)) rfl rfl (by kernel_rfl) (by kernel_rfl) (by kernel_rfl) (by kernel_rfl) (by kernel_rfl) (by kernel_rfl) (fun _ _ _ h => h) hS (by rfl) (by intro w' hSw; obtain ⟨y1, y2, z0, z1, z2, z3⟩ := hSw; go_simp <;> with_reducible rfl) ?_
          simp only [Act.put, List.setIfInBounds_toArray, List.set_cons_zero, List.set_cons_succ]
          refine wpAnyL_take (i := 3) 58 (v := .slice (some ⟨g, 0, none⟩) n0 cp) rfl rfl (by kernel_rfl) (by kernel_rfl) (by kernel_rfl) (by kernel_rfl) (by kernel_rfl) (by kernel_rfl) (fun _ _ _ h => h) hS (by rfl) (by intro w' hSw; obtain ⟨y1, y2, z0, z1, z2, z3⟩ := hSw; go_simp <;> with_reducible rfl) ?_
          simp only [Act.put, List.setIfInBounds_toArray, List.set_cons_zero, List.set_cons_succ]
          refine wpAnyL_take (i := 4) 59 (v := .int .i64 (k : Int)) rfl rfl (by kernel_rfl) (by kernel_rfl) (by kernel_rfl) (by kernel_rfl) (by kernel_rfl) (by kernel_rfl) (fun _ _ _ h => h) hS (by rfl) (by intro w' hSw; obtain ⟨y1, y2, z0, z1, z2, z3⟩ := hSw; go_simp <;> with_reducible rfl) ?_
          simp only [Act.put, List.setIfInBounds_toArray, List.set_cons_zero, List.set_cons_succ]
          refine wpAnyL_take (i := 5) 60 (v := .pointer (some ⟨g, k * 4, none⟩)) rfl rfl (by kernel_rfl) (by kernel_rfl) (by kernel_rfl) (by kernel_rfl) (by kernel_rfl) (by kernel_rfl) (fun _ _ _ h => h) hS (by rfl) (by intro w' hSw; obtain ⟨y1, y2, z0, z1, z2, z3⟩ := hSw; go_simp <;> with_reducible rfl) ?_
          simp only [Act.put, List.setIfInBounds_toArray, List.set_cons_zero, List.set_cons_succ]
          refine wpAnyL_take (i := 6) 61 (v := .agg #[.int .i64 y.k, .string (str y.nm), .string (str y.to), .string (str y.s)]) rfl rfl (by kernel_rfl) (by kernel_rfl) (by kernel_rfl) (by kernel_rfl) (by kernel_rfl) (by kernel_rfl) (fun _ _ _ h => h) hS (by rfl) (by intro w' hSw; obtain ⟨y1, y2, z0, z1, z2, z3⟩ := hSw; go_simp <;> with_reducible rfl) ?_
          simp only [Act.put, List.setIfInBounds_toArray, List.set_cons_zero, List.set_cons_succ]
          refine wpAnyL_take (i := 7) 62 (v := .int .i64 tn) rfl rfl (by kernel_rfl) (by kernel_rfl) (by kernel_rfl) (by kernel_rfl) (by kernel_rfl) (by kernel_rfl) (fun _ _ _ h => h) hS (by rfl) (by intro w' hSw; obtain ⟨y1, y2, z0, z1, z2, z3⟩ := hSw; go_simp <;> with_reducible rfl) ?_
          simp only [Act.put, List.setIfInBounds_toArray, List.set_cons_zero, List.set_cons_succ]
          refine wpAnyL_take (i := 9) 64 (v := .pointer (some ⟨p, 0, none⟩)) rfl rfl (by kernel_rfl) (by kernel_rfl) (by kernel_rfl) (by kernel_rfl) (by kernel_rfl) (by kernel_rfl) (fun _ _ _ h => h) hS (by rfl) (by intro w' hSw; obtain ⟨y1, y2, z0, z1, z2, z3⟩ := hSw; go_simp <;> with_reducible rfl) ?_
          simp only [Act.put, List.setIfInBounds_toArray, List.set_cons_zero, List.set_cons_succ]
          refine wpAnyL_take (i := 10) 65 (v := .pointer (some ⟨p, 0, none⟩)) rfl rfl (by kernel_rfl) (by kernel_rfl) (by kernel_rfl) (by kernel_rfl) (by kernel_rfl) (by kernel_rfl) (fun _ _ _ h => h) hS (by rfl) (by intro w' hSw; obtain ⟨y1, y2, z0, z1, z2, z3⟩ := hSw; go_simp <;> with_reducible rfl) ?_
          simp only [Act.put, List.setIfInBounds_toArray, List.set_cons_zero, List.set_cons_succ]
          refine wpAnyL_take (i := 11) 66 (v := .pointer (some ⟨p, 1, none⟩)) rfl rfl (by kernel_rfl) (by kernel_rfl) (by kernel_rfl) (by kernel_rfl) (by kernel_rfl) (by kernel_rfl) (fun _ _ _ h => h) hS (by rfl) (by intro w' hSw; obtain ⟨y1, y2, z0, z1, z2, z3⟩ := hSw; go_simp <;> with_reducible rfl) ?_
          simp only [Act.put, List.setIfInBounds_toArray, List.set_cons_zero, List.set_cons_succ]
          refine wpAnyL_take (i := 12) 67 (v := .map (some b)) rfl rfl (by kernel_rfl) (by kernel_rfl) (by kernel_rfl) (by kernel_rfl) (by kernel_rfl) (by kernel_rfl) (fun _ _ _ h => h) hS (by rfl) (by intro w' hSw; obtain ⟨y1, y2, z0, z1, z2, z3⟩ := hSw; go_simp <;> with_reducible rfl) ?_
          simp only [Act.put, List.setIfInBounds_toArray, List.set_cons_zero, List.set_cons_succ]
          refine wpAnyL_one (i := 8) (by kernel_rfl) rfl (fun Ka hKa => ?_)
          go_simp
          refine hto.mono ?_
          rintro r w9 ⟨rfl, hb9⟩
          refine hKa.out _ _ (fun _ => ⟨(hb9.cell (p := ⟨p, 1, none⟩) (lt_cellD y1)).trans y1, (hb9.cell (p := ⟨p, 2, none⟩) (lt_cellD y2)).trans y2, (hb9.cell (p := ⟨g, k * 4, none⟩) (lt_cellD z0)).trans z0, (hb9.cell (p := ⟨g, k * 4 + 1, none⟩) (lt_cellD z1)).trans z1, (hb9.cell (p := ⟨g, k * 4 + 2, none⟩) (lt_cellD z2)).trans z2, (hb9.cell (p := ⟨g, k * 4 + 3, none⟩) (lt_cellD z3)).trans z3⟩) ?_
          clear hKa Ka
          try simp only [Act.put, List.setIfInBounds_toArray, List.set_cons_zero, List.set_cons_succ]
          refine wpAnyL_one (i := 13) (by kernel_rfl) rfl (fun Kb hKb => ?_)
          go_simp
          refine Calls.mono (HDO.out w9 hb9) ?_
          rintro r w10 ⟨rfl, m10, f10⟩
          refine hKb.out _ _ (fun h => absurd h (Bool.eq_false_iff.1 (by kernel_rfl))) ?_
          clear hKb Kb HDO
          refine wpAnyL_done (by kernel_rfl) ?_ _
          have f11 : Fr w w10 (fun j => j = b) := (HFV.out.trans (Fr.ofBelow hb9 _) (fun _ _ h => h)).trans f10 (fun _ _ h => h)
          have HT : Hid _ := fail_tail HD.out f11 m10 HS.out
          have hcl := clone_any m10
          have d1 := fr_cellD f11 hpb c1
          clear m10 f10 f11 hb9 hS y1 y2 z0 z1 z2 z3
          go_wp2_with (go_at_call 71; refine hcl.mono ?_; rintro r V' ⟨rfl, m1, m2, mb⟩; obtain ⟨e0, e2, e5, g0, g2, g5, hE⟩ := HT.out V' m1 m2 mb; have HEE : Hid _ := hE; clear hE m1 m2 mb)
          go_end0
          rw [HFail.out, HFn.out]
          exact ⟨rfl, ⟨_, _, _, HEE.out.1⟩, HEE.out.2⟩
      · have HFn : Hid (failF A.sure A.loose keep tn = doneF A.sure (L.take k)) := by
          show _ = _
          rw [← HLe.out]
          exact HF3.out (fun e => hc (by rw [HLe.out, HN0.out] at e; exact e))
        have HT : Hid _ := fail_tail HD.out HF.out HM.out HS.out
        have hcl := clone_any HM.out
        have hcond : k < n0 → tn ≤ 0 := fun e => by omega
        clear hdead
        by_cases hkn : k < n0
        · have htn := hcond hkn
          clear hcond hc
          go_wp2_with (go_at_call 71; refine hcl.mono ?_; rintro r V' ⟨rfl, m1, m2, mb⟩; obtain ⟨e0, e2, e5, g0, g2, g5, hE⟩ := HT.out V' m1 m2 mb; have HEE : Hid _ := hE; clear hE m1 m2 mb)
          go_end0
          rw [HFail.out, HFn.out]
          exact ⟨rfl, ⟨_, _, _, HEE.out.1⟩, HEE.out.2⟩
        · clear hcond hc
          go_wp2_with (go_at_call 71; refine hcl.mono ?_; rintro r V' ⟨rfl, m1, m2, mb⟩; obtain ⟨e0, e2, e5, g0, g2, g5, hE⟩ := HT.out V' m1 m2 mb; have HEE : Hid _ := hE; clear hE m1 m2 mb)
          go_end0
          rw [HFail.out, HFn.out]
          exact ⟨rfl, ⟨_, _, _, HEE.out.1⟩, HEE.out.2⟩
end
end Go.Proofs.YtnhjflebaeokeaaGreat
end
