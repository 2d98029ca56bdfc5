import Derived.Test.YtjemnkijoiehmaaGreatDoorDkStrM
import Derived.Shelf.SlMaps.Clone
import Derived.Shelf.SlGeneric
import Derived.Test.YtjemnkijoiehmaaGreatDoorProg
import Derived.Test.YtjemnkijoiehmaaGreatDoorOrdLM
import Derived.Deep.RegionLaw
import Derived.BigRegion
/- A change is attempted, where no plan is laid: it is done. -/
namespace Go.Proofs.YtjemnkijoiehmaaGreatDoor
open Go.RowKit Go.Maps
variable {Xm : Nat → Prop}
attribute [local go_sem] Oper.semAt_some
theorem lt_cellD {w : World} {b o : Nat} {u : Value} (h : w.cell? ⟨b, o, none⟩ = some u) : b < w.heap.size := World.block_lt_of_cell? w ⟨b, o, none⟩ h
theorem fr_cellD {w w' : World} {S : Nat → Prop} (f : Fr w w' S) {b o : Nat} {u : Value} (hb : ¬ S b) (h : w.cell? ⟨b, o, none⟩ = some u) : w'.cell? ⟨b, o, none⟩ = some u :=
  (World.cell?_of_block (w := w) (w' := w') (a := ⟨b, o, none⟩) (f.block b (lt_cellD h) hb)).trans h
theorem wp_calmD {P : Program} {c : Code} {Q : Exit → Act → World → Prop} {a : Act} {w : World} (h : c.wp P (Exit.then (fun a w => Q .normal a w) (fun _ _ _ => False)) a w) : c.wp P Q a w := Code.wp_mono (fun e a w h => by cases e <;> first | exact h | exact h.elim) h
theorem d_step_append {P : Program} {ops : Array Oper} {o : Oper} {a : Act} {w : World} {K : Act → World → Prop} {Q : Exit → Act → World → Prop} {E : Prop}
    (hg : o.guard = none) (s x : Operand) (t : TypeId) (hop : o.op = .call { callee := .builtin .append, args := #[s, x], argTypes := #[t, t] })
    (base : Nat) (e : TypeId) (i : TypeInfo) (z : Value) (size bytes : Nat) (ht : P.underlying t = some (.slice e)) (hi : P.info? e = some i) (hz : i.zero = some z)
    (hsize : i.size = size) (hby : i.bytes = bytes) (hzs : z.cells.size = size) (hsz : 0 < size)
    (v : Value) (n : Nat) (xs : List Value) (hs : a.eval s = v) (hown : w.ownsRow base e size v n xs)
    (ad : Addr) (m c : Nat) (news : List Value) (hx : a.eval x = .slice (some ad) m c) (hl : news.length = m * size) (hnews : ∀ j u, news[j]? = some u → w.cell? (ad.add j) = some u) (h1 : ∀ u ∈ news, u.oneCell' = true)
    (h63 : n + m ≤ maxLen) (hbytes : (n + m) * bytes ≤ 140737488355328) (hbase : base ≤ w.heap.size)
    (h : ∀ v' w', w'.ownsRow base e size v' (n + m) (xs ++ news) → w.grownBy w' v.ownBlock → (v'.ownBlock = v.ownBlock ∨ v'.ownBlock = some w.heap.size) → K (a.put o.dst v') w') :
    if Region.wanted o (yielded ops a.tmps) = true then Oper.wp P o a w K Q else E := by
  have hw : Region.wanted o (yielded ops a.tmps) = true := by simp [Region.wanted, hg]
  rw [if_pos hw]
  obtain ⟨v', w', hr, h2, h3, _, h5⟩ := run_append_own_at (P := P) w base t o.type e i z size bytes ht hi hz hsize hby hzs hsz v n xs hown ad m c news hl hnews h1 h63 hbytes hbase
  unfold Oper.wp execOp
  simp only [hop, resolve, invoke, builtin, Sem.run_bind, Sem.run_pure, Result.andThen_ok, List.map_toArray, List.map_cons, List.map_nil, hs, hx, hr]
  exact h v' w' h2 h3 h5
theorem infoCH : (Tryz.prog.info? 86).map (fun i => (i.zero, i.size, i.bytes)) = some (some (.agg #[.int .i64 0, .string (str []), .string (str []), .string (str [])]), 4, 56) := by kernel_rfl
theorem d_info {x : Option TypeInfo} {z : Value} {n m : Nat} (h : x.map (fun i => (i.zero, i.size, i.bytes)) = some (some z, n, m)) : ∃ i, x = some i ∧ i.zero = some z ∧ i.size = n ∧ i.bytes = m := by
  cases x with
  | none => cases h
  | some i =>
    simp at h
    exact ⟨i, rfl, h.1, h.2.1, h.2.2⟩
theorem w_four {W : World} {b : Nat} {t : TypeId} {x0 x1 x2 x3 : Value} (h : W.heap[b]? = some (.cells #[x0, x1, x2, x3] t (0, 0))) : ∀ (j : Nat) (v : Value), [x0, x1, x2, x3][j]? = some v → W.cell? ((⟨b, 0, none⟩ : Addr).add j) = some v := by
  intro j v hv
  match j, hv with
  | 0, hv => simpa [Addr.add, World.cell?, h] using hv
  | 1, hv => simpa [Addr.add, World.cell?, h] using hv
  | 2, hv => simpa [Addr.add, World.cell?, h] using hv
  | 3, hv => simpa [Addr.add, World.cell?, h] using hv
section
variable {w V W : World} {B p : Nat} {A : Dk} {a b : Nat} {lv : Value} {c : Chg}
/-- The disk behind a change. -/
def Dk.add (A : Dk) (c : Chg) : Dk := { A with loose := A.loose ++ [c], n := A.n + 1 }
theorem nx_row {mn ms : Option Nat} {lv' : Value} (h : DA Xm V B p A mn ms lv) (hat : ∀ k, lv'.ownBlock = some k → lv.ownBlock = some k ∨ V.heap.size ≤ k) : ∀ k, k = p ∨ mn = some k ∨ ms = some k ∨ lv'.ownBlock = some k → ¬ Xm k := fun k e hx => by
  rcases e with e | e | e | e
  · exact h.nx k (.inl e) hx
  · exact h.nx k (.inr (.inl e)) hx
  · exact h.nx k (.inr (.inr (.inl e))) hx
  · rcases hat k e with e | e
    · exact h.nx k (.inr (.inr (.inr e))) hx
    · have := h.lx k hx
      omega
/-- The disk behind a change, whole. -/
theorem att_end {w7 w8 : World} {lv' : Value} (h : DA Xm V B p A (some a) (some b) lv) (hc : c.ok) (f7 : Fr V w7 (fun k => k = a)) (m7 : FMap w7 a (doF A.now c)) (f8 : Fr w7 w8 (fun k => lv.ownBlock = some k)) (own8 : w8.ownsRow B 86 4 lv' (A.loose.length + 1) (A.loose.flatMap chCells ++ chCells c)) (hat : ∀ k, lv'.ownBlock = some k → lv.ownBlock = some k ∨ V.heap.size ≤ k) :
    DA Xm ((w8.setCell ⟨p, 2, none⟩ lv').setCell ⟨p, 4, none⟩ (.int .i64 ((A.n : Int) + 1))) B p (A.add c) (some a) (some b) lv' ∧ FrD Xm B V ((w8.setCell ⟨p, 2, none⟩ lv').setCell ⟨p, 4, none⟩ (.int .i64 ((A.n : Int) + 1))) := by
  have hab : a ≠ b := by
    rcases h.two with ⟨e, _⟩ | ⟨a', b', e1, e2, hne⟩
    · cases e
    · cases e1; cases e2; exact hne
  have hpa : p ≠ a := fun e => h.pmap.1 (by rw [e])
  have hpb : p ≠ b := fun e => h.pmap.2 (by rw [e])
  have hla : ¬ lv.ownBlock = some a := fun e => (h.mrow e).1 rfl
  have hlb : ¬ lv.ownBlock = some b := fun e => (h.mrow e).2 rfl
  have hlp : ¬ lv.ownBlock = some p := h.prow
  have p7 := (f7.block p h.plt hpa).trans h.blk
  have p8 := (f8.block p (lt_blk p7) hlp).trans p7
  have p9 := blk_set (i := 2) lv' p8
  have p10 := blk_set (i := 4) (.int .i64 ((A.n : Int) + 1)) p9
  have fs : Fr w8 ((w8.setCell ⟨p, 2, none⟩ lv').setCell ⟨p, 4, none⟩ (.int .i64 ((A.n : Int) + 1))) (fun k => k = p) := (Fr.setCell (S := fun k => k = p) w8 ⟨p, 2, none⟩ lv' rfl).trans (Fr.setCell (S := fun k => k = p) _ ⟨p, 4, none⟩ _ rfl) (fun _ _ h => h)
  have ma : FMap ((w8.setCell ⟨p, 2, none⟩ lv').setCell ⟨p, 4, none⟩ (.int .i64 ((A.n : Int) + 1))) a (doF A.now c) := by
    have m8 := m7.same (f8.block a m7.lt hla)
    exact m8.same (fs.block a m8.lt (fun e => hpa e.symm))
  have hsb : FMap V b A.sure := h.sure
  have mb : FMap ((w8.setCell ⟨p, 2, none⟩ lv').setCell ⟨p, 4, none⟩ (.int .i64 ((A.n : Int) + 1))) b A.sure := by
    have m7' := hsb.same (f7.block b hsb.lt (fun e => hab e.symm))
    have m8 := m7'.same (f8.block b m7'.lt hlb)
    exact m8.same (fs.block b m8.lt (fun e => hpb e.symm))
  refine ⟨⟨?_, ?_, mb, .inr ⟨a, b, rfl, rfl, hab⟩, ?_, ?_, h.hp, h.hn, h.hs, nx_row h hat, fun k hk => Nat.lt_of_lt_of_le (h.lx k hk) (Nat.le_trans f7.size (Nat.le_trans f8.size fs.size))⟩, ?_⟩
  · refine p10.trans ?_
    show some (Obj.cells #[.map (some a), .map (some b), lv', A.pv, .int .i64 ((A.n : Int) + 1), .bool A.dead] 54 (0, 0)) = some (Obj.cells #[.map (some a), .map (some b), lv', A.pv, .int .i64 ((A.n + 1 : Nat) : Int), .bool A.dead] 54 (0, 0))
    rw [Int.natCast_add]
    rfl
  · show FMap _ a (doneF A.sure (A.loose ++ [c]))
    rw [doneF_snoc]
    exact ma
  · have hr : w8.ownsRow B 86 4 lv' (A.loose ++ [c]).length ((A.loose ++ [c]).flatMap chCells) := by
      rw [List.length_append, List.flatMap_append]
      simpa using own8
    refine row_keep hr fs (fun k hk e => ?_)
    subst e
    obtain ⟨_, c', f', hb'⟩ := row_tag own8 hk
    rw [p8] at hb'
    cases hb'
  · intro x hx
    rcases List.mem_append.1 hx with hx | hx
    · exact h.ok x hx
    · rw [List.mem_singleton.1 hx]; exact hc
  · have tagA : DkB Xm V a := ⟨.inl (map_tag h.now rfl), h.nx a (.inr (.inl rfl))⟩
    refine ⟨?_, ?_, ?_, ?_, fun k hk hn => ?_⟩
    · exact fs.os.trans (f8.os.trans f7.os)
    · exact fs.tape.trans (f8.tape.trans f7.tape)
    · exact fs.output.trans (f8.output.trans f7.output)
    · exact Nat.le_trans f7.size (Nat.le_trans f8.size fs.size)
    · have ka : k ≠ a := fun e => hn ⟨by rw [e]; exact h.hn a rfl, by rw [e]; exact tagA⟩
      have kl : ¬ lv.ownBlock = some k := fun e => by
        obtain ⟨h1, c', f', hb'⟩ := row_tag h.row e
        exact hn ⟨h1, .inr ⟨_, _, _, hb', .inr rfl⟩, h.nx k (.inr (.inr (.inr e)))⟩
      have kp : k ≠ p := fun e => hn ⟨by rw [e]; exact h.hp, by rw [e]; exact ⟨.inr ⟨_, _, _, h.blk, .inl rfl⟩, h.nx p (.inl rfl)⟩⟩
      have s7 := f7.size
      have s8 := f8.size
      exact (fs.block k (by omega) kp).trans ((f8.block k (by omega) kl).trans (f7.block k hk ka))
/-- Both maps are there behind the first change. -/
theorem att_maps (h : DA Xm w B p A none none lv) (hB : B ≤ w.heap.size) : DA Xm ((((w.alloc (.map #[] 0)).alloc (.map #[] 0)).setCell ⟨p, 0, none⟩ (.map (some w.heap.size))).setCell ⟨p, 1, none⟩ (.map (some (w.heap.size + 1)))) B p A (some w.heap.size) (some (w.heap.size + 1)) lv ∧ FrD Xm B w ((((w.alloc (.map #[] 0)).alloc (.map #[] 0)).setCell ⟨p, 0, none⟩ (.map (some w.heap.size))).setCell ⟨p, 1, none⟩ (.map (some (w.heap.size + 1)))) := by
  have b1 := one_newD w (.map #[] 0)
  have b2 := one_newD (w.alloc (.map #[] 0)) (.map #[] 0)
  have s1 : (w.alloc (.map #[] 0)).heap.size = w.heap.size + 1 := by simp
  have b12 : Below w.heap.size w ((w.alloc (.map #[] 0)).alloc (.map #[] 0)) := b1.trans (b2.mono (by omega))
  have hD := h.new b12
  have e1 : A.sure = [] := h.sure
  have e2 : A.loose = [] := by
    rcases h.two with ⟨_, _, e⟩ | ⟨a', b', e1, _⟩
    · exact e
    · cases e1
  have e3 : A.now = [] := h.now
  have m1 : FMap ((w.alloc (.map #[] 0)).alloc (.map #[] 0)) w.heap.size [] := (FMap.made w).new b2
  have m2 : FMap ((w.alloc (.map #[] 0)).alloc (.map #[] 0)) (w.heap.size + 1) [] := by rw [← s1]; exact FMap.made _
  have hp := h.plt
  have fs : Fr ((w.alloc (.map #[] 0)).alloc (.map #[] 0)) ((((w.alloc (.map #[] 0)).alloc (.map #[] 0)).setCell ⟨p, 0, none⟩ (.map (some w.heap.size))).setCell ⟨p, 1, none⟩ (.map (some (w.heap.size + 1)))) (fun k => k = p) := (Fr.setCell (S := fun k => k = p) _ ⟨p, 0, none⟩ _ rfl).trans (Fr.setCell (S := fun k => k = p) _ ⟨p, 1, none⟩ _ rfl) (fun _ _ h => h)
  have q1 := blk_set (i := 0) (.map (some w.heap.size)) hD.blk
  have q2 := blk_set (i := 1) (.map (some (w.heap.size + 1))) q1
  refine ⟨⟨q2, ?_, ?_, .inr ⟨_, _, rfl, rfl, by omega⟩, row_keep hD.row fs (fun k hk e => by subst e; exact hD.prow hk), h.ok, h.hp, ?_, ?_, ?_, fun k hk => Nat.lt_of_lt_of_le (hD.lx k hk) fs.size⟩, ?_⟩
  · show FMap _ w.heap.size A.now
    rw [e3]
    exact m1.same (fs.block _ m1.lt (by omega))
  · show FMap _ (w.heap.size + 1) A.sure
    rw [e1]
    exact m2.same (fs.block _ m2.lt (by omega))
  · intro k e; cases e; exact hB
  · intro k e; cases e; omega
  · intro k e hx
    have := h.lx k hx
    rcases e with e | e | e | e
    · exact h.nx k (.inl e) hx
    · cases e; omega
    · cases e; omega
    · exact h.nx k (.inr (.inr (.inr e))) hx
  · exact (FrD.new b12).trans (hD.frP fs (fun _ e => e))
set_option linter.unusedSimpArgs false in
set_option maxRecDepth 100000 in
set_option maxHeartbeats 4000000 in
theorem attempt_any {mn ms : Option Nat} (h : DA Xm w B p A mn ms lv) (hB : B ≤ w.heap.size) (hqu : Quiet w A) (hc : c.ok) (hl : A.now.length < maxLen) (hf : (ofF c.nm A.now).length + c.s.length ≤ maxLen) (hn : A.n ≤ 1000000) (hr : A.loose.length ≤ 1000000) : Calls Tryz.prog 37 #[.pointer (some ⟨p, 0, none⟩), chV c] w fun r w' => r = .returned (.int .i64 0) ∧ DkAt Xm w' B p (A.add c) ∧ FrD Xm B w w' := by
  obtain ⟨i0, hi, hz0, hz1, hz2⟩ := d_info infoCH
  have HH : Hid (DA Xm w B p A mn ms lv) := h
  have HBB : Hid (B ≤ w.heap.size) := hB
  have HQu0 : Hid (Quiet w A) := hqu
  have HC : Hid c.ok := hc
  have hmm := @run_makeMap Tryz.prog
  have hq := fun w => run_eql_map_nil_sl (P := Tryz.prog) w 50 _ _ mn Tryz.underlying50
  have htwo := h.two
  have HNQ : Hid (lv.ownBlock ≠ some w.heap.size) := fun e => by
    obtain ⟨_, c', f', hb⟩ := row_tag h.row e
    exact absurd (lt_blk hb) (Nat.lt_irrefl _)
  clear h hB hc hqu
  unfold chV
  go_enter Tryz.func37, Tryz.ntmps37
  go_upto_region 1 with (fail)
  generalize hW : World.alloc _ _ = W
  have hb0 : Below w.heap.size w W := by rw [← hW]; exact one_newD _ _
  have HQ : Hid (W.heap[w.heap.size]? = some (.cells #[.int .i64 c.k, .string (str c.nm), .string (str c.to), .string (str c.s)] 86 (0, 0))) := by show _ = _; rw [← hW]; exact heap_alloc_new _ _
  have HD : Hid (DA Xm W B p A mn ms lv) := HH.out.new hb0
  have HQu : Hid (Quiet W A) := HQu0.out.new hb0
  have HF : Hid (FrD Xm B w W) := FrD.new hb0
  have HBW : Hid (B ≤ W.heap.size) := Nat.le_trans HBB.out hb0.size
  clear hW hb0
  obtain ⟨q, hq0⟩ : ∃ q, w.heap.size = q := ⟨_, rfl⟩
  rw [hq0] at HQ HNQ ⊢
  clear hq0 HH HBB HQu0
  go_upto_region 2 with (go_at_call 57; refine (struck_quiet HD.out HQu.out).mono ?_; rintro r w1 ⟨rfl, hb1⟩; have HB1 : Hid (Below W.heap.size W w1) := hb1; clear hb1)
  generalize hW2 : World.alloc _ _ = W2
  have hb2 : Below W.heap.size W W2 := by rw [← hW2]; exact HB1.out.trans ((one_newD _ _).mono HB1.out.size)
  have HQ2 : Hid (W2.heap[q]? = some (.cells #[.int .i64 c.k, .string (str c.nm), .string (str c.to), .string (str c.s)] 86 (0, 0))) := (hb2.block q (lt_blk HQ.out)).trans HQ.out
  have hD2 := HD.out.new hb2
  have HF2 : Hid (FrD Xm B w W2) := HF.out.trans (FrD.new hb2)
  have hB2 : B ≤ W2.heap.size := Nat.le_trans HBW.out hb2.size
  clear hW2 hb2 HQ HD HF HBW HB1
  rcases htwo with ⟨rfl, rfl, hnil⟩ | ⟨a, b, rfl, rfl, hab⟩
  case' inl =>
    have hE := att_maps hD2 hB2
    obtain ⟨V1, hV1⟩ : ∃ V1, (W2.alloc (.map #[] 0)).alloc (.map #[] 0) = V1 := ⟨_, rfl⟩
    have hb3 : Below W2.heap.size W2 V1 := by rw [← hV1]; exact (one_newD _ _).trans ((one_newD _ _).mono (by simp))
    rw [hV1] at hE
    have hD3 := hD2.new hb3
    obtain ⟨c0, _, _, _, _, _⟩ := hD2.cells
    obtain ⟨c00, c01, _, _, _, _⟩ := hD3.cells
    have f0 := hD3.free 0
    have f1 := hD3.free 1
    have HE : Hid _ := hE
    have HS : Hid (B ≤ W2.heap.size) := hB2
    have HS3 : Hid (W2.heap.size ≤ V1.heap.size) := hb3.size
    have HQ3 : Hid (V1.heap[q]? = some (.cells #[.int .i64 c.k, .string (str c.nm), .string (str c.to), .string (str c.s)] 86 (0, 0))) := (hb3.block q (lt_blk HQ2.out)).trans HQ2.out
    have HQP : Hid (q ≠ p) := by
      intro e
      have e1 := HQ3.out
      rw [e, hD3.blk] at e1
      cases e1
    clear hE hD2 hnil hB2 hD3 hb3
    go_upto_region 7 with (fail)
    have hQ := HQ3.out
    have hE := HE.out
    generalize hV : World.setCell _ _ _ = V
    rw [hV] at hE
    have fs : Fr V1 V (fun k => k = p) := by rw [← hV]; exact (Fr.setCell (S := fun k => k = p) _ ⟨p, 0, none⟩ _ rfl).trans (Fr.setCell (S := fun k => k = p) _ ⟨p, 1, none⟩ _ rfl) (fun _ _ h => h)
    have hQ' := (fs.block q (lt_blk hQ) HQP.out).trans hQ
    have HSV : Hid (B ≤ V.heap.size) := Nat.le_trans HS.out (Nat.le_trans HS3.out fs.size)
    have hFV := HF2.out.trans hE.2
    have hDV := hE.1
    clear hE hV fs hQ HE HS HS3 HQ3 HQP HQ2 HF2 hV1 c0 c00 c01 f0 f1
    generalize W2.heap.size = a at hDV ⊢
    generalize a + 1 = b at hDV ⊢
  case' inr =>
    obtain ⟨c0, _, _, _, _, _⟩ := hD2.cells
    have HD2 : Hid (DA Xm W2 B p A (some a) (some b) lv) := hD2
    have HSV : Hid (B ≤ W2.heap.size) := hB2
    clear hD2 hB2 hab
    go_upto_region 7 with (fail)
    have hQ' := HQ2.out
    have hDV := HD2.out
    have hFV := HF2.out
    clear HQ2 HD2 HF2 c0
    generalize W2 = V at *
  all_goals
    have hVd0 : Below V.heap.size V V.drew := Below.drew (Below.refl _ V)
    obtain ⟨Vd, hVd⟩ : ∃ Vd, V.drew = Vd := ⟨_, rfl⟩
    rw [hVd] at hVd0
    have hDd := hDV.new hVd0
    have hQd := (hVd0.block q (lt_blk hQ')).trans hQ'
    have HFd : Hid (FrD Xm B w Vd) := hFV.trans (FrD.new hVd0)
    have HSd : Hid (B ≤ Vd.heap.size) := Nat.le_trans HSV.out hVd0.size
    obtain ⟨ao, cp, rfl⟩ := hDd.shape
    have hF0 : FMap Vd a A.now := hDd.now
    have HD : Hid (DA Xm Vd B p A (some a) (some b) (.slice ao A.loose.length cp)) := hDd
    have HQ : Hid (Vd.heap[q]? = some (.cells #[.int .i64 c.k, .string (str c.nm), .string (str c.to), .string (str c.s)] 86 (0, 0))) := hQd
    have HDO : Hid (Calls Tryz.prog 59 #[.agg #[.int .i64 c.k, .string (str c.nm), .string (str c.to), .string (str c.s)], .map (some a)] Vd fun r w' => r = .returned (.tuple #[]) ∧ FMap w' a (doF A.now c) ∧ Fr Vd w' (fun k => k = a)) := do_any hF0 c HC.out hl hf
    obtain ⟨y0, _, y2, _, _, _⟩ := hDd.cells
    obtain ⟨z0, z1, z2, z3⟩ := box4 hQd
    obtain ⟨m0, hm0⟩ : ∃ m0, A.loose.length = m0 := ⟨_, rfl⟩
    rw [hm0] at y2
    have HM : Hid (A.loose.length = m0) := hm0
    clear hF0 hDd hQd hDV hQ' hFV HSV hVd0 hm0
    refine wp_calmD ?_
    refine wp_region_L [5] (fun w' : World => w'.cell? ⟨p, 0, none⟩ = some (.map (some a)) ∧ w'.cell? ⟨p, 2, none⟩ = some (.slice ao m0 cp) ∧ w'.cell? ⟨q, 0, none⟩ = some (.int .i64 c.k) ∧ w'.cell? ⟨q, 1, none⟩ = some (.string (str c.nm)) ∧ w'.cell? ⟨q, 2, none⟩ = some (.string (str c.to)) ∧ w'.cell? ⟨q, 3, none⟩ = some (.string (str c.s))) (by kernel_rfl) ?_
    rw [hVd]
    clear hVd
    have hS : (fun w' : World => w'.cell? ⟨p, 0, none⟩ = some (.map (some a)) ∧ w'.cell? ⟨p, 2, none⟩ = some (.slice ao m0 cp) ∧ w'.cell? ⟨q, 0, none⟩ = some (.int .i64 c.k) ∧ w'.cell? ⟨q, 1, none⟩ = some (.string (str c.nm)) ∧ w'.cell? ⟨q, 2, none⟩ = some (.string (str c.to)) ∧ w'.cell? ⟨q, 3, none⟩ = some (.string (str c.s))) Vd := ⟨y0, y2, z0, z1, z2, z3⟩
    refine wpAnyL_take (i := 0) 32 (v := .agg #[.int .i64 c.k, .string (str c.nm), .string (str c.to), .string (str c.s)]) rfl rfl (by kernel_rfl) (by kernel_rfl) (by kernel_rfl) (by kernel_rfl) (by kernel_rfl) (by kernel_rfl) (fun _ _ _ h => h) hS (by rfl) (by intro w' hSw; obtain ⟨y0, y2, z0, z1, z2, z3⟩ := hSw; go_simp <;> with_reducible rfl) ?_
    simp only [Act.put, List.setIfInBounds_toArray, List.set_cons_zero, List.set_cons_succ]
    refine wpAnyL_take (i := 1) 33 (v := .pointer (some ⟨p, 0, none⟩)) rfl rfl (by kernel_rfl) (by kernel_rfl) (by kernel_rfl) (by kernel_rfl) (by kernel_rfl) (by kernel_rfl) (fun _ _ _ h => h) hS (by rfl) (by intro w' hSw; obtain ⟨y0, y2, z0, z1, z2, z3⟩ := hSw; go_simp <;> with_reducible rfl) ?_
    simp only [Act.put, List.setIfInBounds_toArray, List.set_cons_zero, List.set_cons_succ]
    refine wpAnyL_take (i := 2) 34 (v := .pointer (some ⟨p, 0, none⟩)) rfl rfl (by kernel_rfl) (by kernel_rfl) (by kernel_rfl) (by kernel_rfl) (by kernel_rfl) (by kernel_rfl) (fun _ _ _ h => h) hS (by rfl) (by intro w' hSw; obtain ⟨y0, y2, z0, z1, z2, z3⟩ := hSw; go_simp <;> with_reducible rfl) ?_
    simp only [Act.put, List.setIfInBounds_toArray, List.set_cons_zero, List.set_cons_succ]
    refine wpAnyL_take (i := 3) 35 (v := .pointer (some ⟨p, 0, none⟩)) rfl rfl (by kernel_rfl) (by kernel_rfl) (by kernel_rfl) (by kernel_rfl) (by kernel_rfl) (by kernel_rfl) (fun _ _ _ h => h) hS (by rfl) (by intro w' hSw; obtain ⟨y0, y2, z0, z1, z2, z3⟩ := hSw; go_simp <;> with_reducible rfl) ?_
    simp only [Act.put, List.setIfInBounds_toArray, List.set_cons_zero, List.set_cons_succ]
    refine wpAnyL_take (i := 4) 36 (v := .map (some a)) rfl rfl (by kernel_rfl) (by kernel_rfl) (by kernel_rfl) (by kernel_rfl) (by kernel_rfl) (by kernel_rfl) (fun _ _ _ h => h) hS (by rfl) (by intro w' hSw; obtain ⟨y0, y2, z0, z1, z2, z3⟩ := hSw; go_simp <;> with_reducible rfl) ?_
    simp only [Act.put, List.setIfInBounds_toArray, List.set_cons_zero, List.set_cons_succ]
    refine wpAnyL_one (i := 5) (by kernel_rfl) rfl (fun Ka hKa => ?_)
    go_simp
    refine Calls.mono HDO.out ?_
    rintro r w7 ⟨rfl, m7, f7⟩
    refine hKa.out _ _ (fun h => absurd h (Bool.eq_false_iff.1 (by kernel_rfl))) ?_
    clear hKa Ka HDO
    refine wpAnyL_done (by kernel_rfl) ?_ _
    have b70 : Below w7.heap.size w7 w7.drew := Below.drew (Below.refl _ w7)
    obtain ⟨w8, hw8⟩ : ∃ w8, w7.drew = w8 := ⟨_, rfl⟩
    rw [hw8] at b70
    have hpa : p ≠ a := fun e => HD.out.pmap.1 (by rw [e])
    have hqa : q ≠ a := fun e => by
      obtain ⟨es, cc, hh⟩ := map_tag HD.out.now rfl
      have e1 := HQ.out
      rw [e, hh] at e1
      cases e1
    have f78 : Fr Vd w8 (fun k => k = a) := f7.trans (Fr.ofBelow b70 (fun k => k = a)) (fun _ _ h => h)
    have m8 : FMap w8 a (doF A.now c) := m7.new b70
    have x2 := fr_cellD f78 hpa y2
    have x0 := fr_cellD f78 hpa y0
    have p8 := (f78.block p HD.out.plt hpa).trans HD.out.blk
    have q8 := (f78.block q (lt_blk HQ.out) hqa).trans HQ.out
    obtain ⟨u0, u1, u2, u3⟩ := box4 q8
    have hrow8 := row_keep HD.out.row f78 (fun k hk e => by subst e; exact (HD.out.mrow hk).1 rfl)
    rw [HM.out] at hrow8 p8
    have HR8 : Hid (w8.ownsRow B 86 4 (.slice ao m0 cp) m0 (A.loose.flatMap chCells)) := hrow8
    have HP8 : Hid (w8.heap[p]? = some (.cells #[.map (some a), .map (some b), .slice ao m0 cp, A.pv, .int .i64 A.n, .bool A.dead] 54 (0, 0))) := p8
    have HF7 : Hid (Fr Vd w8 (fun k => k = a)) := f78
    have HM8 : Hid (FMap w8 a (doF A.now c)) := m8
    have hS8 : B ≤ w8.heap.size := Nat.le_trans HSd.out f78.size
    have HMR : Hid (m0 ≤ 1000000) := by show m0 ≤ 1000000; rw [← HM.out]; exact hr
    clear hS y0 y2 z0 z1 z2 z3 m7 f7 f78 m8 p8 q8 hrow8 b70 hpa hqa
    go_wp2_with (fail)
    refine wp_calmD ?_
    refine wp_region_L [10] (fun w' : World => w'.cell? ⟨p, 0, none⟩ = some (.map (some a)) ∧ w'.cell? ⟨p, 2, none⟩ = some (.slice ao m0 cp) ∧ w'.cell? ⟨q, 0, none⟩ = some (.int .i64 c.k) ∧ w'.cell? ⟨q, 1, none⟩ = some (.string (str c.nm)) ∧ w'.cell? ⟨q, 2, none⟩ = some (.string (str c.to)) ∧ w'.cell? ⟨q, 3, none⟩ = some (.string (str c.s))) (by kernel_rfl) ?_
    rw [hw8]
    clear hw8
    have hS : (fun w' : World => w'.cell? ⟨p, 0, none⟩ = some (.map (some a)) ∧ w'.cell? ⟨p, 2, none⟩ = some (.slice ao m0 cp) ∧ w'.cell? ⟨q, 0, none⟩ = some (.int .i64 c.k) ∧ w'.cell? ⟨q, 1, none⟩ = some (.string (str c.nm)) ∧ w'.cell? ⟨q, 2, none⟩ = some (.string (str c.to)) ∧ w'.cell? ⟨q, 3, none⟩ = some (.string (str c.s))) w8 := ⟨x0, x2, u0, u1, u2, u3⟩
    refine wpAnyL_take (i := 0) 38 (v := .pointer (some ⟨p, 0, none⟩)) rfl rfl (by kernel_rfl) (by kernel_rfl) (by kernel_rfl) (by kernel_rfl) (by kernel_rfl) (by kernel_rfl) (fun _ _ _ h => h) hS (by rfl) (by intro w' hSw; obtain ⟨y0, y2, z0, z1, z2, z3⟩ := hSw; go_simp <;> with_reducible rfl) ?_
    simp only [Act.put, List.setIfInBounds_toArray, List.set_cons_zero, List.set_cons_succ]
    refine wpAnyL_take (i := 1) 39 (v := .pointer (some ⟨p, 0, none⟩)) rfl rfl (by kernel_rfl) (by kernel_rfl) (by kernel_rfl) (by kernel_rfl) (by kernel_rfl) (by kernel_rfl) (fun _ _ _ h => h) hS (by rfl) (by intro w' hSw; obtain ⟨y0, y2, z0, z1, z2, z3⟩ := hSw; go_simp <;> with_reducible rfl) ?_
    simp only [Act.put, List.setIfInBounds_toArray, List.set_cons_zero, List.set_cons_succ]
    refine wpAnyL_take (i := 2) 40 (v := .pointer (some ⟨p, 0, none⟩)) rfl rfl (by kernel_rfl) (by kernel_rfl) (by kernel_rfl) (by kernel_rfl) (by kernel_rfl) (by kernel_rfl) (fun _ _ _ h => h) hS (by rfl) (by intro w' hSw; obtain ⟨y0, y2, z0, z1, z2, z3⟩ := hSw; go_simp <;> with_reducible rfl) ?_
    simp only [Act.put, List.setIfInBounds_toArray, List.set_cons_zero, List.set_cons_succ]
    refine wpAnyL_take (i := 3) 41 (v := .pointer (some ⟨p, 2, none⟩)) rfl rfl (by kernel_rfl) (by kernel_rfl) (by kernel_rfl) (by kernel_rfl) (by kernel_rfl) (by kernel_rfl) (fun _ _ _ h => h) hS (by rfl) (by intro w' hSw; obtain ⟨y0, y2, z0, z1, z2, z3⟩ := hSw; go_simp <;> with_reducible rfl) ?_
    simp only [Act.put, List.setIfInBounds_toArray, List.set_cons_zero, List.set_cons_succ]
    refine wpAnyL_take (i := 4) 42 (v := .slice ao m0 cp) rfl rfl (by kernel_rfl) (by kernel_rfl) (by kernel_rfl) (by kernel_rfl) (by kernel_rfl) (by kernel_rfl) (fun _ _ _ h => h) hS (by rfl) (by intro w' hSw; obtain ⟨y0, y2, z0, z1, z2, z3⟩ := hSw; go_simp <;> with_reducible rfl) ?_
    simp only [Act.put, List.setIfInBounds_toArray, List.set_cons_zero, List.set_cons_succ]
    refine wpAnyL_take (i := 5) 43 (v := .agg #[.int .i64 c.k, .string (str c.nm), .string (str c.to), .string (str c.s)]) rfl rfl (by kernel_rfl) (by kernel_rfl) (by kernel_rfl) (by kernel_rfl) (by kernel_rfl) (by kernel_rfl) (fun _ _ _ h => h) hS (by rfl) (by intro w' hSw; obtain ⟨y0, y2, z0, z1, z2, z3⟩ := hSw; go_simp <;> with_reducible rfl) ?_
    simp only [Act.put, List.setIfInBounds_toArray, List.set_cons_zero, List.set_cons_succ]
    refine wpAnyL_one (i := 6) (by kernel_rfl) rfl (fun Kb hKb => ?_)
    go_simp
    have bel0 : Below w8.heap.size w8 (w8.alloc (.cells #[.int .i64 c.k, .string (str c.nm), .string (str c.to), .string (str c.s)] 86)) := one_newD _ _
    have hcell : ∀ (bb oo : Nat) (uu : Value), w8.cell? ⟨bb, oo, none⟩ = some uu → (w8.alloc (.cells #[.int .i64 c.k, .string (str c.nm), .string (str c.to), .string (str c.s)] 86)).cell? ⟨bb, oo, none⟩ = some uu := fun bb oo uu hh => (bel0.cell (p := ⟨bb, oo, none⟩) (lt_cellD hh)).trans hh
    refine hKb.out _ _ (fun _ => ⟨hcell _ _ _ x0, hcell _ _ _ x2, hcell _ _ _ u0, hcell _ _ _ u1, hcell _ _ _ u2, hcell _ _ _ u3⟩) ?_
    clear hKb Kb
    try simp only [Act.put, List.setIfInBounds_toArray, List.set_cons_zero, List.set_cons_succ]
    refine wpAnyL_one (i := 7) (by kernel_rfl) rfl (fun Kc hKc => ?_)
    refine d_step_append rfl (.tmp 42) (.tmp 44) 51 rfl B 86 i0 (.agg #[.int .i64 0, .string (str []), .string (str []), .string (str [])]) 4 56 Tryz.underlying51 hi hz0 hz1 hz2 rfl (by decide) (.slice ao m0 cp) m0 (A.loose.flatMap chCells) (by simp [Act.eval]) (row_keep HR8.out (Fr.ofBelow bel0 (fun _ => False)) (fun _ _ h => h)) ⟨w8.heap.size, 0, none⟩ 1 1 [.int .i64 c.k, .string (str c.nm), .string (str c.to), .string (str c.s)] (by simp [Act.eval]) rfl (w_four (heap_alloc_new w8 (.cells #[.int .i64 c.k, .string (str c.nm), .string (str c.to), .string (str c.s)] 86))) (by intro u hu; simp at hu; rcases hu with rfl | rfl | rfl | rfl <;> rfl) (by have := HMR.out; unfold maxLen; omega) (by have := HMR.out; omega) (Nat.le_trans hS8 bel0.size) ?_
    intro v1 w9 own9 gr9 at9
    have hsh : ∃ a1 m1 c1, v1 = .slice a1 m1 c1 := by
      rcases own9.2 with ⟨h1, h2⟩ | ⟨g, cap, cur, rfl, _⟩
      · exact ⟨none, 0, 0, h1⟩
      · exact ⟨_, _, _, rfl⟩
    obtain ⟨a1, m1, c1, rfl⟩ := hsh
    have f9 : Fr w8 w9 (fun k => (Value.slice ao m0 cp).ownBlock = some k) := ((Fr.ofBelow bel0 (fun _ => False)).mono (fun _ _ h => h.elim)).trans (Fr.grown gr9 (fun k hk => hk)) (fun _ _ h => h)
    have hnp : ¬ (Value.slice ao m0 cp).ownBlock = some p := fun e => by
      obtain ⟨_, cc, ff, hh⟩ := row_tag HR8.out e
      rw [HP8.out] at hh
      cases hh
    have p9 := (f9.block p (lt_blk HP8.out) hnp).trans HP8.out
    have c92 : w9.cell? ⟨p, 2, none⟩ = some (.slice ao m0 cp) := by simp [World.cell?, p9]
    have c94 : w9.cell? ⟨p, 4, none⟩ = some (.int .i64 A.n) := by simp [World.cell?, p9]
    have fz2 : w9.frozen? ⟨p, 2, none⟩ = false := by simp [World.frozen?, p9]
    have fz4 : w9.frozen? ⟨p, 4, none⟩ = false := by simp [World.frozen?, p9]
    have hnq : ¬ (Value.slice ao m0 cp).ownBlock = some q := by
      rw [← HM.out]
      exact HNQ.out
    refine hKc.out _ _ (fun _ => ⟨fr_cellD f9 hnp x0, fr_cellD f9 hnp x2, fr_cellD f9 hnq u0, fr_cellD f9 hnq u1, fr_cellD f9 hnq u2, fr_cellD f9 hnq u3⟩) ?_
    have x09 := fr_cellD f9 hnp x0
    have u09 := fr_cellD f9 hnq u0
    have u19 := fr_cellD f9 hnq u1
    have u29 := fr_cellD f9 hnq u2
    have u39 := fr_cellD f9 hnq u3
    clear hKc Kc
    try simp only [Act.put, List.setIfInBounds_toArray, List.set_cons_zero, List.set_cons_succ]
    refine wpAnyL_one (i := 8) (by kernel_rfl) rfl (fun Kd hKd => ?_)
    go_simp
    refine hKd.out _ _ (fun _ => ⟨x09, c92, u09, u19, u29, u39⟩) ?_
    clear hKd Kd
    try simp only [Act.put, List.setIfInBounds_toArray, List.set_cons_zero, List.set_cons_succ]
    refine wpAnyL_one (i := 9) (by kernel_rfl) rfl (fun Ke hKe => ?_)
    go_simp
    refine hKe.out _ _ (fun _ => ⟨x09, c92, u09, u19, u29, u39⟩) ?_
    clear hKe Ke
    try simp only [Act.put, List.setIfInBounds_toArray, List.set_cons_zero, List.set_cons_succ]
    refine wpAnyL_one (i := 10) (by kernel_rfl) rfl (fun Kf hKf => ?_)
    go_simp
    refine hKf.out _ _ (fun h => absurd h (Bool.eq_false_iff.1 (by kernel_rfl))) ?_
    clear hKf Kf
    refine wpAnyL_done (by kernel_rfl) ?_ _
    have own9' : w9.ownsRow B 86 4 (.slice a1 m1 c1) (A.loose.length + 1) (A.loose.flatMap chCells ++ chCells c) := by rw [HM.out]; exact own9
    have hEnd := att_end HD.out HC.out HF7.out HM8.out (by rw [HM.out]; exact f9) own9' (fun k hk => by
      rcases at9 with e | e
      · rw [e] at hk
        exact .inl (by rw [HM.out]; exact hk)
      · rw [e] at hk
        cases hk
        refine .inr ?_
        have := HF7.out.size
        rw [World.size_alloc]
        omega)
    have HEnd : Hid _ := hEnd
    have d4 : (w9.setCell ⟨p, 2, none⟩ (.slice a1 m1 c1)).cell? ⟨p, 4, none⟩ = some (.int .i64 A.n) := by
      have := blk_set (i := 2) (.slice a1 m1 c1) p9
      simp [World.cell?, this]
    have g4 : (w9.setCell ⟨p, 2, none⟩ (.slice a1 m1 c1)).frozen? ⟨p, 4, none⟩ = false := by
      have := blk_set (i := 2) (.slice a1 m1 c1) p9
      simp [World.frozen?, this]
    clear hEnd own9 own9' gr9 at9 f9 hnp hnq p9 c92 c94 fz2 fz4 x09 u09 u19 u29 u39 bel0 hcell hS x0 x2 u0 u1 u2 u3 HR8 HP8 HM8
    obtain ⟨w10, hw10⟩ : ∃ w10, w9.setCell ⟨p, 2, none⟩ (.slice a1 m1 c1) = w10 := ⟨_, rfl⟩
    rw [hw10] at HEnd d4 g4 ⊢
    clear hw10
    go_wp2_with (fail)
    go_ret
    exact ⟨rfl, ⟨_, _, _, HEnd.out.1⟩, HFd.out.trans HEnd.out.2⟩
end
end Go.Proofs.YtjemnkijoiehmaaGreatDoor
