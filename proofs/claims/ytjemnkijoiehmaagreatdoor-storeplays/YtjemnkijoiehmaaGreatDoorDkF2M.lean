import Derived.Test.YtjemnkijoiehmaaGreatDoorDkAttM
/- Append, Write, Move, Remove and Read of a disk that has power, and of one that has none. -/
namespace Go.Proofs.YtjemnkijoiehmaaGreatDoor
open Go.RowKit Go.Maps
variable {Xm : Nat → Prop}
attribute [local go_sem] Oper.semAt_some
theorem name32 {l : Bs} (h : nameB l = true) : l.length ≤ 32 := by
  unfold nameB at h
  rw [Bool.and_eq_true] at h
  have := of_decide_eq_true h.1
  exact this.2
theorem cell_blk {w : World} {b i : Nat} {cs : Array Value} {t : TypeId} (h : w.heap[b]? = some (.cells cs t (0, 0))) : w.cell? ⟨b, i, none⟩ = cs[i]? := by simp [World.cell?, h]
theorem nm1 (w : World) (nm : Bs) (hm : nm.length ≤ maxLen) : NmAt (w.alloc (.cells #[.string (str nm)] 9)) w.heap.size [nm] := by
  have hh := heap_alloc_new w (.cells #[.string (str nm)] 9)
  intro j hj
  match j, hj with
  | 0, _ => exact ⟨(cell_blk hh).trans rfl, hm⟩
section
variable {w : World} {B p : Nat} {A : Dk} {mn ms : Option Nat} {lv : Value} {nm tt s : Bs}
theorem live_at (h : DA Xm w B p A mn ms lv) (hd : A.dead = false) : ∀ W, Below w.heap.size w W → Calls Tryz.prog 25 #[.pointer (some ⟨p, 0, none⟩)] W fun r w' => r = .returned (.bool false) ∧ w' = W := fun W hb => by rw [← hd]; exact dead_any (h.new hb)
theorem hind1 (h : DA Xm w B p A mn ms lv) (hd : A.dead = false) (hm : nm.length ≤ maxLen) {er : Int} (he : er = if nameB nm then 0 else 110) : Calls Tryz.prog 45 #[.pointer (some ⟨p, 0, none⟩), .slice (some ⟨w.heap.size, 0, none⟩) 1 1] (w.alloc (.cells #[.string (str nm)] 9)) fun r w' => r = .returned (.int .i64 er) ∧ w' = w.alloc (.cells #[.string (str nm)] 9) :=
  hind_live (L := [nm]) _ (live_at h hd _ (one_newD _ _)) (nm1 w nm hm) (by simp) (by rw [he]; simp)
/-- What a change asks of the sizes. -/
structure Bd (A : Dk) (c : Chg) : Prop where
  len : A.now.length < maxLen
  fit : (ofF c.nm A.now).length + c.s.length ≤ maxLen
  n : A.n ≤ 1000000
  l : A.loose.length ≤ 1000000
theorem attempt_b {c : Chg} (h : DA Xm w B p A mn ms lv) (hB : B ≤ w.heap.size) (hqu : Quiet w A) (hc : c.ok) (hb : Bd A c) : Calls Tryz.prog 37 #[.pointer (some ⟨p, 0, none⟩), .agg #[.int .i64 c.k, .string (str c.nm), .string (str c.to), .string (str c.s)]] w fun r w' => r = .returned (.int .i64 0) ∧ DkAt Xm w' B p (A.add c) ∧ FrD Xm B w w' := attempt_any h hB hqu hc hb.len hb.fit hb.n hb.l
set_option maxRecDepth 100000 in
set_option maxHeartbeats 400000 in
theorem put_ok {k : Int} (hk : k = 0 ∨ k = 1) (h : DA Xm w B p A mn ms lv) (hB : B ≤ w.heap.size) (hqu : Quiet w A) (hd : A.dead = false) (hn : nameB nm = true) (hb : Bd A ⟨k, nm, [], s⟩) : Calls Tryz.prog 52 #[.pointer (some ⟨p, 0, none⟩), .int .i64 k, .string (str nm), .string (str s)] w fun r w' => r = .returned (.int .i64 0) ∧ DkAt Xm w' B p (A.add ⟨k, nm, [], s⟩) ∧ FrD Xm B w w' := by
  have h32 : (32 : Nat) ≤ maxLen := by decide
  have hm := Nat.le_trans (name32 hn) h32
  have hH := hind1 h hd hm (er := 0) (by rw [hn]; rfl)
  have hb0 := one_newD w (.cells #[.string (str nm)] 9)
  have hA := attempt_b (c := ⟨k, nm, [], s⟩) (h.new hb0) (Nat.le_trans hB hb0.size) (hqu.new hb0) ⟨by rcases hk with h | h <;> simp [h], name32 hn, by simp⟩ hb
  have HB : Hid (FrD Xm B w (w.alloc (.cells #[.string (str nm)] 9))) := FrD.new hb0
  clear h hn hd hb0 hb hk hqu
  go_enter Tryz.func52, Tryz.ntmps52
  go_wp2_with (first
    | (go_at_call 45; refine hH.mono ?_; rintro r w' ⟨rfl, rfl⟩)
    | (go_at_call 37; refine Calls.mono hA ?_; rintro r w2 ⟨rfl, hD2, hF2⟩; have HD2 : Hid _ := hD2; have HF2 : Hid _ := hF2; clear hD2 hF2))
  go_ret
  exact ⟨rfl, HD2.out, HB.out.trans HF2.out⟩
theorem write_ok (h : DA Xm w B p A mn ms lv) (hB : B ≤ w.heap.size) (hqu : Quiet w A) (hd : A.dead = false) (hn : nameB nm = true) (hb : Bd A ⟨1, nm, [], s⟩) : Calls Tryz.prog 32 #[.pointer (some ⟨p, 0, none⟩), .string (str nm), .string (str s)] w fun r w' => r = .returned (.int .i64 0) ∧ DkAt Xm w' B p (A.add ⟨1, nm, [], s⟩) ∧ FrD Xm B w w' := by
  have hP := put_ok (.inr rfl) h hB hqu hd hn hb
  clear h hn hd hb hqu
  go_enter Tryz.func32, Tryz.ntmps32
  go_wp2_with (go_at_call 52; refine hP.mono ?_; rintro r w2 ⟨rfl, hD2, hF2⟩; have HD2 : Hid _ := hD2; have HF2 : Hid _ := hF2; clear hD2 hF2)
  go_ret
  exact ⟨rfl, HD2.out, HF2.out⟩
set_option maxRecDepth 100000 in
set_option maxHeartbeats 400000 in
theorem read_ok (h : DA Xm w B p A mn ms lv) (hd : A.dead = false) (hn : nameB nm = true) {er : Int} (he : er = if (getF nm A.now).isSome then 0 else 2) : Calls Tryz.prog 28 #[.pointer (some ⟨p, 0, none⟩), .string (str nm)] w fun r w' => r = .returned (.tuple #[.string (str (ofF nm A.now)), .int .i64 er]) ∧ Below w.heap.size w w' := by
  have h32 : (32 : Nat) ≤ maxLen := by decide
  have hm := Nat.le_trans (name32 hn) h32
  have hH := hind1 h hd hm (er := 0) (by rw [hn]; rfl)
  have hb0 := one_newD w (.cells #[.string (str nm)] 9)
  have hD := h.new hb0
  obtain ⟨c0, _, _, _, _, _⟩ := hD.cells
  have hlk := hD.now.look hm
  have HB : Hid (Below w.heap.size w (w.alloc (.cells #[.string (str nm)] 9))) := hb0
  obtain ⟨W, hW⟩ : ∃ W, w.alloc (.cells #[.string (str nm)] 9) = W := ⟨_, rfl⟩
  rw [hW] at hH c0 hlk HB
  have HE : Hid (er = if (getF nm A.now).isSome then 0 else 2) := he
  have HO : Hid ((getF nm A.now).isSome = false → ofF nm A.now = []) := fun e => by
    unfold ofF
    cases e2 : getF nm A.now with
    | none => rfl
    | some x => rw [e2] at e; cases e
  clear h hn hd hD hb0 he
  generalize ofF nm A.now = vv at hlk HO ⊢
  cases hs : (getF nm A.now).isSome with
  | true =>
    rw [hs] at HE hlk
    have HB9 : Hid (∀ x, Below w.heap.size w (W.alloc x)) := fun x => HB.out.trans ((one_newD _ _).mono HB.out.size)
    go_enter Tryz.func28, Tryz.ntmps28
    go_wp2_with (go_at_call 45; refine hH.mono ?_; rintro r w' ⟨rfl, rfl⟩)
    go_ret2
    exact ⟨by rw [HE.out]; rfl, HB9.out _⟩
  | false =>
    rw [hs] at HE hlk
    have HV : Hid (vv = []) := HO.out hs
    have HB9 : Hid (∀ x, Below w.heap.size w (W.alloc x)) := fun x => HB.out.trans ((one_newD _ _).mono HB.out.size)
    go_enter Tryz.func28, Tryz.ntmps28
    go_wp2_with (go_at_call 45; refine hH.mono ?_; rintro r w' ⟨rfl, rfl⟩)
    go_ret2
    exact ⟨by rw [HE.out, HV.out]; rfl, HB9.out _⟩
end
end Go.Proofs.YtjemnkijoiehmaaGreatDoor
