import Derived.Test.YtnhjflebaeokeaaGreatDkAtM
import Derived.BigQuiet
import Derived.Deep.DeepCutAuto
import Derived.Deep.CutBlock
import Derived.Deep.RegionWith
import Derived.Deep.RegionHeld
import Derived.Shelf.SlMaps.Clone
import Derived.Shelf.SlGeneric
import Derived.Test.YtnhjflebaeokeaaGreatProg
import Derived.Test.YtnhjflebaeokeaaGreatOrdLM
import Derived.Deep.RegionLaw
import Derived.BigRegion
section
/- Dead, hindered, Read, Up of a disk, and of none. -/
namespace Go.Proofs.YtnhjflebaeokeaaGreat
open Go.RowKit Go.Maps
variable {Xm : Nat → Prop}
attribute [local go_sem] Oper.semAt_some
section
variable {w : World} {B p : Nat} {A : Dk} {mn ms : Option Nat} {lv : Value}
theorem dead_any (h : DA Xm w B p A mn ms lv) : Calls Tryz.prog 40 #[.pointer (some ⟨p, 0, none⟩)] w fun r w' => r = .returned (.bool A.dead) ∧ w' = w := by
  obtain ⟨_, _, _, _, _, c5⟩ := h.cells
  generalize A.dead = dd at c5 ⊢
  clear h
  go_enter Tryz.func40, Tryz.ntmps40
  go_wp2
  go_ret
  exact ⟨rfl, rfl⟩
/-- Names in memory. -/
def NmAt (w : World) (b : Nat) (L : List Bs) : Prop := ∀ j (h : j < L.length), w.cell? ⟨b, j, none⟩ = some (.string (str L[j])) ∧ L[j].length ≤ maxLen
set_option maxHeartbeats 400000 in
theorem hind_live {b : Nat} {L : List Bs} (P : Value) (hd : Calls Tryz.prog 40 #[P] w fun r w' => r = .returned (.bool false) ∧ w' = w) (hL : NmAt w b L) (hm : L.length ≤ 2) {er : Int} (he : er = if L.all nameB then 0 else 110) : Calls Tryz.prog 96 #[P, .slice (some ⟨b, 0, none⟩) L.length L.length] w fun r w' => r = .returned (.int .i64 er) ∧ w' = w := by
  have HE : Hid (er = if L.all nameB then 0 else 110) := he
  clear he
  go_enter Tryz.func96, Tryz.ntmps96
  go_wp2_with (go_at_call 40; refine hd.mono ?_; rintro r w ⟨rfl, rfl⟩)
  go_loop [6, 11] (fun _ i => ∃ k : Nat, k ≤ L.length ∧ i = .int .i64 k ∧ (L.take k).all nameB = true) (fun _ i => L.length - (intOf i).toNat)
  case atStart => exact ⟨0, Nat.zero_le _, rfl, by simp⟩
  case round =>
    obtain ⟨k, hk, rfl, ha⟩ := hrel
    have HT : Hid ((L.take k).all nameB = true) := ha
    clear ha
    by_cases hlt : k < L.length
    · obtain ⟨c0, hl⟩ := hL k hlt
      have HG : Hid ((L.take (k + 1)).all nameB = ((L.take k).all nameB && nameB L[k])) := by
        show _ = _
        rw [List.take_succ_eq_append_getElem hlt, List.all_append]
        simp
      have HI : Hid (nameB L[k] = false → L.all nameB = false) := fun e => List.all_eq_false.2 ⟨L[k], List.getElem_mem hlt, by simp [e]⟩
      have hN := name_any (str L[k]) w hl
      rw [str_list] at hN
      generalize L[k] = nm at c0 HG HI hN
      clear hL hl
      cases hc : nameB nm with
      | true =>
        rw [hc] at hN
        have HC : Hid (nameB nm = true) := hc
        clear hc
        go_wp2_with (go_at_call 130; refine hN.mono ?_; rintro r w ⟨rfl, rfl⟩)
        go_round
        case rel => exact ⟨k + 1, by omega, by go_num, by rw [HG.out, HT.out, HC.out]; rfl⟩
        case measure => simp [intOf]; omega
      | false =>
        rw [hc] at hN
        have HC : Hid (L.all nameB = false) := HI.out hc
        clear hc
        go_wp2_with (go_at_call 130; refine hN.mono ?_; rintro r w ⟨rfl, rfl⟩)
        go_ret
        exact ⟨by rw [HE.out, HC.out]; rfl, rfl⟩
    · have HF : Hid (L.all nameB = true) := by
        have := HT.out
        rw [List.take_of_length_le (by omega)] at this
        exact this
      clear hL HT
      obtain rfl : k = L.length := by omega
      clear hlt hk hm
      go_wp2
      go_ret
      exact ⟨by rw [HE.out, HF.out]; rfl, rfl⟩
end
end Go.Proofs.YtnhjflebaeokeaaGreat
end

section
/- A change is done to a map of files. -/
namespace Go.Proofs.YtnhjflebaeokeaaGreat
open Go.RowKit Go.Maps
attribute [local go_sem] Oper.semAt_some
theorem add_len {a b : Bs} (h : a.length + b.length ≤ maxLen) : ¬ 9223372036854775807 < (str a).size + (str b).size := by
  unfold maxLen at h
  rw [str_size, str_size]
  omega
theorem field_file (s : ByteArray) (W : World) : (Instr.field 132 (.agg #[.string s]) 0).run Tryz.prog W = .ok (.string s) W := by kernel_rfl
def chV (c : Chg) : Value := .agg #[.int .i64 c.k, .string (str c.nm), .string (str c.to), .string (str c.s)]
theorem FMap.new {w w' : World} {b : Nat} {l : Fl} (h : FMap w b l) (hb : Below w.heap.size w w') : FMap w' b l := h.same (hb.block b h.lt)
theorem one_newD (w : World) (x : Obj) : Below w.heap.size w (w.alloc x) := (Below.refl _ _).alloc (Nat.le_refl _) _
theorem box4 {w : World} {b : Nat} {x0 x1 x2 x3 : Value} {t : TypeId} (h : w.heap[b]? = some (.cells #[x0, x1, x2, x3] t (0, 0))) : w.cell? ⟨b, 0, none⟩ = some x0 ∧ w.cell? ⟨b, 1, none⟩ = some x1 ∧ w.cell? ⟨b, 2, none⟩ = some x2 ∧ w.cell? ⟨b, 3, none⟩ = some x3 := by
  simp [World.cell?, h]
section
variable {w : World} {b : Nat} {l : Fl} {nm tq ss : Bs}
theorem do_start (k : Int) (h : FMap w b l) : ∃ W q, w.alloc (.cells #[.int .i64 k, .string (str nm), .string (str tq), .string (str ss)] 122) = W ∧ w.heap.size = q ∧ FMap W b l ∧ Fr w W (fun k => k = b) ∧ W.cell? ⟨q, 0, none⟩ = some (.int .i64 k) ∧ W.cell? ⟨q, 1, none⟩ = some (.string (str nm)) ∧ W.cell? ⟨q, 2, none⟩ = some (.string (str tq)) ∧ W.cell? ⟨q, 3, none⟩ = some (.string (str ss)) ∧ q ≠ b ∧ q < W.heap.size := by
  have hB := one_newD w (.cells #[.int .i64 k, .string (str nm), .string (str tq), .string (str ss)] 122)
  exact ⟨_, _, rfl, rfl, h.new hB, Fr.ofBelow hB _, (box4 (heap_alloc_new _ _)).1, (box4 (heap_alloc_new _ _)).2.1, (box4 (heap_alloc_new _ _)).2.2.1, (box4 (heap_alloc_new _ _)).2.2.2, by have := h.lt; omega, by simp⟩
set_option maxRecDepth 100000 in
set_option maxHeartbeats 400000 in
theorem do_0 (h : FMap w b l) (hl : l.length < maxLen) (hN : nm.length ≤ maxLen) (hf : (ofF nm l).length + ss.length ≤ maxLen) : Calls Tryz.prog 68 #[.agg #[.int .i64 0, .string (str nm), .string (str tq), .string (str ss)], .map (some b)] w fun r w' => r = .returned (.tuple #[]) ∧ FMap w' b (putF nm (ofF nm l ++ ss) l) ∧ Fr w w' (fun k => k = b) := by
  obtain ⟨W, q, hW, hq, hM, hF, c0, c1, c2, c3, _, _⟩ := do_start (nm := nm) (tq := tq) (ss := ss) 0 h
  obtain ⟨w2, hrun, hP, hF2⟩ := hM.put hl hN (ofF nm l ++ ss)
  have hlk := hM.look hN
  have hadd := add_len hf
  have hfd := field_file
  rw [← str_append] at hrun
  have HR : Hid (FMap w2 b (putF nm (ofF nm l ++ ss) l) ∧ Fr w w2 (fun k => k = b)) := ⟨hP, hF.trans hF2 (fun _ _ h => h)⟩
  clear hP hF2 hF hM h
  go_enter Tryz.func68, Tryz.ntmps68
  go_wp2
  go_end0
  exact ⟨rfl, HR.out⟩
set_option maxRecDepth 100000 in
set_option maxHeartbeats 400000 in
theorem do_1 (h : FMap w b l) (hl : l.length < maxLen) (hN : nm.length ≤ maxLen) : Calls Tryz.prog 68 #[.agg #[.int .i64 1, .string (str nm), .string (str tq), .string (str ss)], .map (some b)] w fun r w' => r = .returned (.tuple #[]) ∧ FMap w' b (putF nm ss l) ∧ Fr w w' (fun k => k = b) := by
  obtain ⟨W, q, hW, hq, hM, hF, c0, c1, c2, c3, _, _⟩ := do_start (nm := nm) (tq := tq) (ss := ss) 1 h
  obtain ⟨w2, hrun, hP, hF2⟩ := hM.put hl hN ss
  have HR : Hid (FMap w2 b (putF nm ss l) ∧ Fr w w2 (fun k => k = b)) := ⟨hP, hF.trans hF2 (fun _ _ h => h)⟩
  clear hP hF2 hF hM h
  go_enter Tryz.func68, Tryz.ntmps68
  go_wp2
  go_end0
  exact ⟨rfl, HR.out⟩
theorem swap_putdel (hs : SortF l) (hne : ¬ nm = tq) (v : Bs) : ∀ k, getF k (delF nm (putF tq v l)) = getF k (putF tq v (delF nm l)) := by
  intro k
  rw [getF_del (sort_putF _ _ hs), getF_put hs, getF_put (sort_delF _ hs), getF_del hs]
  by_cases e : k = nm
  · subst e
    rw [if_pos rfl, if_neg hne, if_pos rfl]
  · rw [if_neg e, if_neg e]
set_option maxRecDepth 100000 in
set_option maxHeartbeats 400000 in
theorem do_2 (h : FMap w b l) (hl : l.length < maxLen) (hN : nm.length ≤ maxLen) (hT : tq.length ≤ maxLen) (hne : ¬ nm = tq) : Calls Tryz.prog 68 #[.agg #[.int .i64 2, .string (str nm), .string (str tq), .string (str ss)], .map (some b)] w fun r w' => r = .returned (.tuple #[]) ∧ FMap w' b (putF tq (ofF nm l) (delF nm l)) ∧ Fr w w' (fun k => k = b) := by
  obtain ⟨W, q, hW, hq, hM, hF, c0, c1, c2, c3, hqb, hql⟩ := do_start (nm := nm) (tq := tq) (ss := ss) 2 h
  obtain ⟨w2, hrun, hP, hF2⟩ := hM.put hl hT (ofF nm l)
  have hlk := hM.look hN
  obtain ⟨w3, hrun3, hP3, hF3⟩ := hP.del hN 0
  have d1 : w2.cell? ⟨q, 1, none⟩ = some (.string (str nm)) := by
    have := hF2.block q hql hqb
    rw [← c1]
    simp only [World.cell?, this]
  have HR : Hid (FMap w3 b (putF tq (ofF nm l) (delF nm l)) ∧ Fr w w3 (fun k => k = b)) := ⟨hP3.ext (sort_putF _ _ (sort_delF _ h.1)) (swap_putdel h.1 hne _), (hF.trans hF2 (fun _ _ h => h)).trans hF3 (fun _ _ h => h)⟩
  clear hP hF2 hF hM h hP3 hF3 hne
  go_enter Tryz.func68, Tryz.ntmps68
  go_wp2
  go_end0
  exact ⟨rfl, HR.out⟩
set_option maxRecDepth 100000 in
set_option maxHeartbeats 400000 in
theorem do_3 (h : FMap w b l) (hN : nm.length ≤ maxLen) : Calls Tryz.prog 68 #[.agg #[.int .i64 3, .string (str nm), .string (str tq), .string (str ss)], .map (some b)] w fun r w' => r = .returned (.tuple #[]) ∧ FMap w' b (delF nm l) ∧ Fr w w' (fun k => k = b) := by
  obtain ⟨W, q, hW, hq, hM, hF, c0, c1, c2, c3, _, _⟩ := do_start (nm := nm) (tq := tq) (ss := ss) 3 h
  obtain ⟨w2, hrun, hP, hF2⟩ := hM.del hN 0
  have HR : Hid (FMap w2 b (delF nm l) ∧ Fr w w2 (fun k => k = b)) := ⟨hP, hF.trans hF2 (fun _ _ h => h)⟩
  clear hP hF2 hF hM h
  go_enter Tryz.func68, Tryz.ntmps68
  go_wp2
  go_end0
  exact ⟨rfl, HR.out⟩
end
theorem do_any {w : World} {b : Nat} {l : Fl} (h : FMap w b l) (c : Chg) (hc : c.ok) (hl : l.length < maxLen) (hf : (ofF c.nm l).length + c.s.length ≤ maxLen) : Calls Tryz.prog 68 #[chV c, .map (some b)] w fun r w' => r = .returned (.tuple #[]) ∧ FMap w' b (doF l c) ∧ Fr w w' (fun k => k = b) := by
  obtain ⟨hk, hn1, hn2⟩ := hc
  have h32 : (32 : Nat) ≤ maxLen := by decide
  have hm1 := Nat.le_trans hn1 h32
  have hm2 := Nat.le_trans hn2 h32
  obtain ⟨k, nm, tq, s⟩ := c
  simp only at hk hm1 hm2 hf
  unfold chV
  rcases hk with rfl | rfl | ⟨rfl, hne⟩ | rfl
  · exact do_0 h hl hm1 hf
  · exact do_1 h hl hm1
  · exact do_2 h hl hm1 hm2 hne
  · exact do_3 h hm1
end Go.Proofs.YtnhjflebaeokeaaGreat
end

section
/- No fall strikes where there is no plan. -/
namespace Go.Proofs.YtnhjflebaeokeaaGreat
open Go.RowKit Go.Maps
variable {Xm : Nat → Prop}
attribute [local go_sem] Oper.semAt_some
theorem res_ctD {fn : Func} {p u : Tmp} {ty : TypeId} (h : fn.results = #[.cell p ty, .tmp u]) (tmps : Array Value) (w : World) (g : Nat) (t : TypeId) (cs : Array Value) (fr : Nat × Nat) (d : TypeDesc)
    (hp : tmps.getD p undef = .pointer (some ⟨g, 0, none⟩)) (hg : w.heap[g]? = some (.cells cs t fr))
    (hu : Tryz.prog.underlying ty = some d) (hd : (match d with | .struct _ | .array _ _ => true | _ => false) = true) (hi : (Tryz.prog.info? ty).map (·.size) = some cs.size) :
    (results fn tmps).run Tryz.prog w = .ok (.tuple #[.agg cs, tmps.getD u undef]) w := by
  rw [results_cell_tmp h, hp]
  have := run_loadVar_row (P := Tryz.prog) w g t ty cs fr d hg hu (by cases d <;> first | rfl | exact hd) hi
  simp [asAddr, this]
theorem size_fall : (Tryz.prog.info? 31).map (·.size) = some 3 := by kernel_rfl
theorem blk_set {w : World} {g i : Nat} {cs : Array Value} {t : TypeId} (v : Value) (h : w.heap[g]? = some (.cells cs t (0, 0))) : (w.setCell ⟨g, i, none⟩ v).heap[g]? = some (.cells (cs.setIfInBounds i v) t (0, 0)) := by
  have hlt := lt_blk h
  have h' : w.heap[g] = .cells cs t (0, 0) := by simpa [Array.getElem?_eq_getElem hlt] using h
  show (w.heap.modify g _)[g]? = _
  rw [Array.getElem?_eq_getElem (by simpa using hlt), Array.getElem_modify_self, h']
  rfl
theorem heap_drewD (w : World) (n : Nat) : (w.drewN n).heap = w.heap := by
  induction n with
  | zero => rfl
  | succ n ih => exact ih
theorem bel_drewD {w w' : World} {B : Nat} (h : Below B w w') (n : Nat) : Below B w (w'.drewN n) := by
  induction n with
  | zero => exact h
  | succ n ih => exact ih.drew
theorem box3 {w : World} {b : Nat} {x0 x1 x2 : Value} {t : TypeId} (h : w.heap[b]? = some (.cells #[x0, x1, x2] t (0, 0))) : w.cell? ⟨b, 0, none⟩ = some x0 ∧ w.cell? ⟨b, 1, none⟩ = some x1 ∧ w.cell? ⟨b, 2, none⟩ = some x2 ∧ w.frozen? ⟨b, 0, none⟩ = false ∧ w.frozen? ⟨b, 1, none⟩ = false ∧ w.frozen? ⟨b, 2, none⟩ = false := by
  simp [World.cell?, World.frozen?, h]
theorem set3_fr (w : World) (g : Nat) (x0 x1 x2 : Value) : Fr w (((w.setCell ⟨g, 0, none⟩ x0).setCell ⟨g, 1, none⟩ x1).setCell ⟨g, 2, none⟩ x2) (fun k => k = g) :=
  ((Fr.setCell (S := fun k => k = g) w ⟨g, 0, none⟩ x0 rfl).trans (Fr.setCell (S := fun k => k = g) _ ⟨g, 1, none⟩ x1 rfl) (fun _ _ h => h)).trans (Fr.setCell (S := fun k => k = g) _ ⟨g, 2, none⟩ x2 rfl) (fun _ _ h => h)
theorem set3 {w : World} {g : Nat} {c0 c1 c2 : Value} {t : TypeId} (x0 x1 x2 : Value) (h : w.heap[g]? = some (.cells #[c0, c1, c2] t (0, 0))) : (((w.setCell ⟨g, 0, none⟩ x0).setCell ⟨g, 1, none⟩ x1).setCell ⟨g, 2, none⟩ x2).heap[g]? = some (.cells #[x0, x1, x2] t (0, 0)) := by
  have h1 : (w.setCell ⟨g, 0, none⟩ x0).heap[g]? = some (.cells #[x0, c1, c2] t (0, 0)) := blk_set x0 h
  have h2 : ((w.setCell ⟨g, 0, none⟩ x0).setCell ⟨g, 1, none⟩ x1).heap[g]? = some (.cells #[x0, x1, c2] t (0, 0)) := blk_set x1 h1
  exact blk_set x2 h2
/-- A plan in memory: falls, in order. -/
def PlanIs (w : World) (v : Value) (L : List (Int × Int × Int)) : Prop := ∃ ao c, v = .slice ao L.length c ∧ L.length ≤ c ∧ (0 < L.length → ∃ g off cs f, ao = some ⟨g, off, none⟩ ∧ w.heap[g]? = some (.cells cs 31 f) ∧ ∀ j (h : j < L.length), w.cell? ⟨g, off + j * 3, none⟩ = some (.int .i64 L[j].1) ∧ w.cell? ⟨g, off + j * 3 + 1, none⟩ = some (.int .i64 L[j].2.1) ∧ w.cell? ⟨g, off + j * 3 + 2, none⟩ = some (.int .i64 L[j].2.2))
theorem PlanIs.nil (w : World) : PlanIs w (.slice none 0 0) [] := ⟨none, 0, rfl, Nat.le_refl _, fun h => absurd h (by simp)⟩
theorem PlanIs.kept {w w' : World} {v : Value} {L : List (Int × Int × Int)} (h : PlanIs w v L) (hb : ∀ (g : Nat) (cs : Array Value) (f : Nat × Nat), w.heap[g]? = some (.cells cs 31 f) → w'.heap[g]? = w.heap[g]?) : PlanIs w' v L := by
  obtain ⟨ao, c, rfl, h1, h2⟩ := h
  refine ⟨ao, c, rfl, h1, fun h0 => ?_⟩
  obtain ⟨g, off, cs, f, e, h3, h4⟩ := h2 h0
  have hg := hb g cs f h3
  refine ⟨g, off, cs, f, e, hg.trans h3, fun j hj => ?_⟩
  obtain ⟨a0, a1, a2⟩ := h4 j hj
  exact ⟨(World.cell?_of_block (a := ⟨g, off + j * 3, none⟩) hg).trans a0, (World.cell?_of_block (a := ⟨g, off + j * 3 + 1, none⟩) hg).trans a1, (World.cell?_of_block (a := ⟨g, off + j * 3 + 2, none⟩) hg).trans a2⟩
theorem PlanIs.new {w w' : World} {v : Value} {L : List (Int × Int × Int)} (h : PlanIs w v L) (hb : Below w.heap.size w w') : PlanIs w' v L := h.kept (fun g _ _ hg => hb.block g (lt_blk hg))
theorem PlanIs.frD {w w' : World} {B : Nat} {v : Value} {L : List (Int × Int × Int)} (h : PlanIs w v L) (f : FrD Xm B w w') : PlanIs w' v L := h.kept (fun g cs fr hg => f.block g (lt_blk hg) (fun s => by
  rcases s.2.1 with ⟨es, c', hm⟩ | ⟨c', t, f'', hm, ht⟩
  · rw [hg] at hm; cases hm
  · rw [hg] at hm
    cases hm
    rcases ht with ht | ht <;> exact absurd ht (by decide)))
/-- No fall strikes at the next change. -/
def Quiet (w : World) (A : Dk) : Prop := ∃ L, PlanIs w A.pv L ∧ ∀ f ∈ L.head?, ¬ f.1 = (A.n : Int)
theorem Quiet.new {w w' : World} {A : Dk} (h : Quiet w A) (hb : Below w.heap.size w w') : Quiet w' A := by
  obtain ⟨L, h1, h2⟩ := h
  exact ⟨L, h1.new hb, h2⟩
theorem quiet_nil {w : World} {A : Dk} (h : A.pv = .slice none 0 0) : Quiet w A := ⟨[], by rw [h]; exact PlanIs.nil w, fun f hf => by cases hf⟩
set_option maxRecDepth 100000 in
set_option maxHeartbeats 400000 in
theorem struck_none {w : World} {B p : Nat} {A : Dk} {mn ms : Option Nat} {lv : Value} (h : DA Xm w B p A mn ms lv) {ao : Option Addr} {cc : Nat} (hpv : A.pv = .slice ao 0 cc) : Calls Tryz.prog 131 #[.pointer (some ⟨p, 0, none⟩)] w fun r w' => r = .returned (.tuple #[.agg #[.int .i64 0, .int .i64 0, .int .i64 0], .bool false]) ∧ Below w.heap.size w w' := by
  go_enter Tryz.func131, Tryz.ntmps131
  go_upto_region 1 with (fail)
  generalize hW : World.alloc _ _ = W
  have hB : Below w.heap.size w W := by rw [← hW]; exact one_newD w _
  have hZ : W.heap[w.heap.size]? = some (.cells #[.int .i64 0, .int .i64 0, .int .i64 0] 31 (0, 0)) := by rw [← hW]; exact heap_alloc_new w _
  obtain ⟨c0, c1, c2, c3, c4, c5⟩ := (h.new hB).cells
  rw [hpv] at c3
  have HB : Hid _ := hB
  have HZ : Hid _ := hZ
  clear hW hZ hB c0 c1 c2 c4 c5 h hpv
  obtain ⟨q, hq⟩ : ∃ q, w.heap.size = q := ⟨_, rfl⟩
  have HQ : Hid (w.heap.size = q) := hq
  rw [hq] at HB HZ
  rw [hq]
  clear hq
  go_quiet (fail)
  obtain ⟨W2, hW2⟩ : ∃ W2, W.drewN nq = W2 := ⟨_, rfl⟩
  rw [hW2]
  have HB2 : Hid (Below q w W2) := by show Below q w W2; rw [← hW2]; exact bel_drewD HB.out nq
  have HZ2 : Hid (W2.heap[q]? = some (.cells #[.int .i64 0, .int .i64 0, .int .i64 0] 31 (0, 0))) := by show _ = _; rw [← hW2, heap_drewD]; exact HZ.out
  obtain ⟨z0, z1, z2, f0, f1, f2⟩ := box3 HZ2.out
  clear hW2 HB HZ c3
  go_wp2
  refine bodyPost_ret (v := .tuple #[.agg #[.int .i64 0, .int .i64 0, .int .i64 0], .bool false]) (res_ctD Tryz.results131 _ _ q 31 _ (0, 0) _ rfl (set3 _ _ _ HZ2.out) Tryz.underlying31 rfl size_fall) rfl ?_
  have hQ := HQ.out
  have hB2 := HB2.out
  rw [hQ]
  exact ⟨rfl, hB2.trans (Fr.below (set3_fr _ q _ _ _) (by have := hB2.size; omega) (fun k e => by omega))⟩
set_option maxRecDepth 100000 in
set_option maxHeartbeats 400000 in
theorem struck_later {w : World} {B p : Nat} {A : Dk} {mn ms : Option Nat} {lv : Value} (h : DA Xm w B p A mn ms lv) {g off m cc : Nat} {f1 : Int} (hpv : A.pv = .slice (some ⟨g, off, none⟩) (m + 1) cc) (hf : w.cell? ⟨g, off, none⟩ = some (.int .i64 f1)) (hne : ¬ f1 = (A.n : Int)) : Calls Tryz.prog 131 #[.pointer (some ⟨p, 0, none⟩)] w fun r w' => r = .returned (.tuple #[.agg #[.int .i64 0, .int .i64 0, .int .i64 0], .bool false]) ∧ Below w.heap.size w w' := by
  go_enter Tryz.func131, Tryz.ntmps131
  go_upto_region 1 with (fail)
  generalize hW : World.alloc _ _ = W
  have hB : Below w.heap.size w W := by rw [← hW]; exact one_newD w _
  have hZ : W.heap[w.heap.size]? = some (.cells #[.int .i64 0, .int .i64 0, .int .i64 0] 31 (0, 0)) := by rw [← hW]; exact heap_alloc_new w _
  obtain ⟨c0, c1, c2, c3, c4, c5⟩ := (h.new hB).cells
  rw [hpv] at c3
  have cf := (hB.cell (p := ⟨g, off, none⟩) (World.block_lt_of_cell? w ⟨g, off, none⟩ hf)).trans hf
  have hneb : (f1 != (A.n : Int)) = true := by simpa using hne
  have hl0 : ((m : Int) + 1 == 0) = false := by simp; omega
  have hl1 : (0 : Int) < (m : Int) + 1 := by omega
  have HB : Hid _ := hB
  have HZ : Hid _ := hZ
  clear hW hZ hB c0 c1 c2 c5 h hpv hf hne
  obtain ⟨q, hq⟩ : ∃ q, w.heap.size = q := ⟨_, rfl⟩
  have HQ : Hid (w.heap.size = q) := hq
  rw [hq] at HB HZ
  rw [hq]
  clear hq
  go_quiet (fail)
  obtain ⟨W2, hW2⟩ : ∃ W2, W.drewN nq = W2 := ⟨_, rfl⟩
  rw [hW2]
  have HB2 : Hid (Below q w W2) := by show Below q w W2; rw [← hW2]; exact bel_drewD HB.out nq
  have HZ2 : Hid (W2.heap[q]? = some (.cells #[.int .i64 0, .int .i64 0, .int .i64 0] 31 (0, 0))) := by show _ = _; rw [← hW2, heap_drewD]; exact HZ.out
  obtain ⟨z0, z1, z2, f0, f1, f2⟩ := box3 HZ2.out
  clear hW2 HB HZ c3 c4 cf
  go_wp2
  refine bodyPost_ret (v := .tuple #[.agg #[.int .i64 0, .int .i64 0, .int .i64 0], .bool false]) (res_ctD Tryz.results131 _ _ q 31 _ (0, 0) _ rfl (set3 _ _ _ HZ2.out) Tryz.underlying31 rfl size_fall) rfl ?_
  have hQ := HQ.out
  have hB2 := HB2.out
  rw [hQ]
  exact ⟨rfl, hB2.trans (Fr.below (set3_fr _ q _ _ _) (by have := hB2.size; omega) (fun k e => by omega))⟩
theorem struck_quiet {w : World} {B p : Nat} {A : Dk} {mn ms : Option Nat} {lv : Value} (h : DA Xm w B p A mn ms lv) (hq : Quiet w A) : Calls Tryz.prog 131 #[.pointer (some ⟨p, 0, none⟩)] w fun r w' => r = .returned (.tuple #[.agg #[.int .i64 0, .int .i64 0, .int .i64 0], .bool false]) ∧ Below w.heap.size w w' := by
  obtain ⟨L, ⟨ao, c, hv, hc, hx⟩, hn⟩ := hq
  cases L with
  | nil => exact struck_none h hv
  | cons f L =>
    obtain ⟨g, off, cs, fr, rfl, _, hcs⟩ := hx (by simp)
    exact struck_later h (m := L.length) hv (by have h9 := (hcs 0 (by simp)).1; rw [Nat.zero_mul, Nat.add_zero] at h9; exact h9) (hn f (by simp))
end Go.Proofs.YtnhjflebaeokeaaGreat
end

section
/- The library's functions at the disk's types: which of the program's functions are the library's. -/
namespace Go.Proofs.YtnhjflebaeokeaaGreat
open Go.Shelf Go.Proofs
def layMClone_ren : Go.Shelf.Ren := ⟨fun | 5 => 71 | 7 => 108 | n => n, fun | 23 => 80 | 25 => 9 | 3 => 132 | 4 => 4 | 20 => 20 | n => n, fun | n => n⟩
theorem layMClone : Go.Proofs.SlLaysW.n5 Tryz.prog layMClone_ren := {
  mixed := by kernel_rfl,
  f5 := ⟨Tryz.f71.name, by decide, Tryz.func71.trans (congrArg some (by kernel_rfl))⟩,
  f7 := Tryz.func108.trans (congrArg some (by kernel_rfl)),
  t4 := Tryz.underlying4,
  a4 := Tryz.isAgg4,
  z4 := Tryz.sizeOf4,
  v4 := Tryz.zeroValue4,
  t20 := Tryz.underlying20,
  a20 := Tryz.isAgg20,
  z20 := Tryz.sizeOf20,
  v20 := Tryz.zeroValue20,
  t23 := Tryz.underlying80,
  a23 := Tryz.isAgg80,
  z23 := Tryz.sizeOf80,
  v23 := Tryz.zeroValue80 }
end Go.Proofs.YtnhjflebaeokeaaGreat
end

section
/- A change is attempted, where no plan is laid: it is done. -/
namespace Go.Proofs.YtnhjflebaeokeaaGreat
open Go.RowKit Go.Maps
variable {Xm : Nat → Prop}
attribute [local go_sem] Oper.semAt_some
theorem lt_cellD {w : World} {b o : Nat} {u : Value} (h : w.cell? ⟨b, o, none⟩ = some u) : b < w.heap.size := World.block_lt_of_cell? w ⟨b, o, none⟩ h
theorem fr_cellD {w w' : World} {S : Nat → Prop} (f : Fr w w' S) {b o : Nat} {u : Value} (hb : ¬ S b) (h : w.cell? ⟨b, o, none⟩ = some u) : w'.cell? ⟨b, o, none⟩ = some u :=
  (World.cell?_of_block (w := w) (w' := w') (a := ⟨b, o, none⟩) (f.block b (lt_cellD h) hb)).trans h
theorem wp_calmD {P : Program} {c : Code} {Q : Exit → Act → World → Prop} {a : Act} {w : World} (h : c.wp P (Exit.then (fun a w => Q .normal a w) (fun _ _ _ => False)) a w) : c.wp P Q a w := Code.wp_mono (fun e a w h => by cases e <;> first | exact h | exact h.elim) h
theorem d_step_append {P : Program} {ops : Array Oper} {o : Oper} {a : Act} {w : World} {K : Act → World → Prop} {Q : Exit → Act → World → Prop} {E : Prop}
    (hg : o.guard = none) (s x : Operand) (t : TypeId) (hop : o.op = .call { callee := .builtin .append, args := #[s, x], argTypes := #[t, t] })
    (base : Nat) (e : TypeId) (i : TypeInfo) (z : Value) (size bytes : Nat) (ht : P.underlying t = some (.slice e)) (hi : P.info? e = some i) (hz : i.zero = some z)
    (hsize : i.size = size) (hby : i.bytes = bytes) (hzs : z.cells.size = size) (hsz : 0 < size)
    (v : Value) (n : Nat) (xs : List Value) (hs : a.eval s = v) (hown : w.ownsRow base e size v n xs)
    (ad : Addr) (m c : Nat) (news : List Value) (hx : a.eval x = .slice (some ad) m c) (hl : news.length = m * size) (hnews : ∀ j u, news[j]? = some u → w.cell? (ad.add j) = some u) (h1 : ∀ u ∈ news, u.oneCell' = true)
    (h63 : n + m ≤ maxLen) (hbytes : (n + m) * bytes ≤ 140737488355328) (hbase : base ≤ w.heap.size)
    (h : ∀ v' w', w'.ownsRow base e size v' (n + m) (xs ++ news) → w.grownBy w' v.ownBlock → (v'.ownBlock = v.ownBlock ∨ v'.ownBlock = some w.heap.size) → K (a.put o.dst v') w') :
    if Region.wanted o (yielded ops a.tmps) = true then Oper.wp P o a w K Q else E := by
  have hw : Region.wanted o (yielded ops a.tmps) = true := by simp [Region.wanted, hg]
  rw [if_pos hw]
  obtain ⟨v', w', hr, h2, h3, _, h5⟩ := run_append_own_at (P := P) w base t o.type e i z size bytes ht hi hz hsize hby hzs hsz v n xs hown ad m c news hl hnews h1 h63 hbytes hbase
  unfold Oper.wp execOp
  simp only [hop, resolve, invoke, builtin, Sem.run_bind, Sem.run_pure, Result.andThen_ok, List.map_toArray, List.map_cons, List.map_nil, hs, hx, hr]
  exact h v' w' h2 h3 h5
theorem infoCH : (Tryz.prog.info? 122).map (fun i => (i.zero, i.size, i.bytes)) = some (some (.agg #[.int .i64 0, .string (str []), .string (str []), .string (str [])]), 4, 56) := by kernel_rfl
theorem d_info {x : Option TypeInfo} {z : Value} {n m : Nat} (h : x.map (fun i => (i.zero, i.size, i.bytes)) = some (some z, n, m)) : ∃ i, x = some i ∧ i.zero = some z ∧ i.size = n ∧ i.bytes = m := by
  cases x with
  | none => cases h
  | some i =>
    simp at h
    exact ⟨i, rfl, h.1, h.2.1, h.2.2⟩
theorem w_four {W : World} {b : Nat} {t : TypeId} {x0 x1 x2 x3 : Value} (h : W.heap[b]? = some (.cells #[x0, x1, x2, x3] t (0, 0))) : ∀ (j : Nat) (v : Value), [x0, x1, x2, x3][j]? = some v → W.cell? ((⟨b, 0, none⟩ : Addr).add j) = some v := by
  intro j v hv
  match j, hv with
  | 0, hv => simpa [Addr.add, World.cell?, h] using hv
  | 1, hv => simpa [Addr.add, World.cell?, h] using hv
  | 2, hv => simpa [Addr.add, World.cell?, h] using hv
  | 3, hv => simpa [Addr.add, World.cell?, h] using hv
section
variable {w V W : World} {B p : Nat} {A : Dk} {a b : Nat} {lv : Value} {c : Chg}
/-- The disk behind a change. -/
def Dk.add (A : Dk) (c : Chg) : Dk := { A with loose := A.loose ++ [c], n := A.n + 1 }
theorem nx_row {mn ms : Option Nat} {lv' : Value} (h : DA Xm V B p A mn ms lv) (hat : ∀ k, lv'.ownBlock = some k → lv.ownBlock = some k ∨ V.heap.size ≤ k) : ∀ k, k = p ∨ mn = some k ∨ ms = some k ∨ lv'.ownBlock = some k → ¬ Xm k := fun k e hx => by
  rcases e with e | e | e | e
  · exact h.nx k (.inl e) hx
  · exact h.nx k (.inr (.inl e)) hx
  · exact h.nx k (.inr (.inr (.inl e))) hx
  · rcases hat k e with e | e
    · exact h.nx k (.inr (.inr (.inr e))) hx
    · have := h.lx k hx
      omega
/-- The disk behind a change, whole. -/
theorem att_end {w7 w8 : World} {lv' : Value} (h : DA Xm V B p A (some a) (some b) lv) (hc : c.ok) (f7 : Fr V w7 (fun k => k = a)) (m7 : FMap w7 a (doF A.now c)) (f8 : Fr w7 w8 (fun k => lv.ownBlock = some k)) (own8 : w8.ownsRow B 122 4 lv' (A.loose.length + 1) (A.loose.flatMap chCells ++ chCells c)) (hat : ∀ k, lv'.ownBlock = some k → lv.ownBlock = some k ∨ V.heap.size ≤ k) :
    DA Xm ((w8.setCell ⟨p, 2, none⟩ lv').setCell ⟨p, 4, none⟩ (.int .i64 ((A.n : Int) + 1))) B p (A.add c) (some a) (some b) lv' ∧ FrD Xm B V ((w8.setCell ⟨p, 2, none⟩ lv').setCell ⟨p, 4, none⟩ (.int .i64 ((A.n : Int) + 1))) := by
  have hab : a ≠ b := by
    rcases h.two with ⟨e, _⟩ | ⟨a', b', e1, e2, hne⟩
    · cases e
    · cases e1; cases e2; exact hne
  have hpa : p ≠ a := fun e => h.pmap.1 (by rw [e])
  have hpb : p ≠ b := fun e => h.pmap.2 (by rw [e])
  have hla : ¬ lv.ownBlock = some a := fun e => (h.mrow e).1 rfl
  have hlb : ¬ lv.ownBlock = some b := fun e => (h.mrow e).2 rfl
  have hlp : ¬ lv.ownBlock = some p := h.prow
  have p7 := (f7.block p h.plt hpa).trans h.blk
  have p8 := (f8.block p (lt_blk p7) hlp).trans p7
  have p9 := blk_set (i := 2) lv' p8
  have p10 := blk_set (i := 4) (.int .i64 ((A.n : Int) + 1)) p9
  have fs : Fr w8 ((w8.setCell ⟨p, 2, none⟩ lv').setCell ⟨p, 4, none⟩ (.int .i64 ((A.n : Int) + 1))) (fun k => k = p) := (Fr.setCell (S := fun k => k = p) w8 ⟨p, 2, none⟩ lv' rfl).trans (Fr.setCell (S := fun k => k = p) _ ⟨p, 4, none⟩ _ rfl) (fun _ _ h => h)
  have ma : FMap ((w8.setCell ⟨p, 2, none⟩ lv').setCell ⟨p, 4, none⟩ (.int .i64 ((A.n : Int) + 1))) a (doF A.now c) := by
    have m8 := m7.same (f8.block a m7.lt hla)
    exact m8.same (fs.block a m8.lt (fun e => hpa e.symm))
  have hsb : FMap V b A.sure := h.sure
  have mb : FMap ((w8.setCell ⟨p, 2, none⟩ lv').setCell ⟨p, 4, none⟩ (.int .i64 ((A.n : Int) + 1))) b A.sure := by
    have m7' := hsb.same (f7.block b hsb.lt (fun e => hab e.symm))
    have m8 := m7'.same (f8.block b m7'.lt hlb)
    exact m8.same (fs.block b m8.lt (fun e => hpb e.symm))
  refine ⟨⟨?_, ?_, mb, .inr ⟨a, b, rfl, rfl, hab⟩, ?_, ?_, h.hp, h.hn, h.hs, nx_row h hat, fun k hk => Nat.lt_of_lt_of_le (h.lx k hk) (Nat.le_trans f7.size (Nat.le_trans f8.size fs.size))⟩, ?_⟩
  · refine p10.trans ?_
    show some (Obj.cells #[.map (some a), .map (some b), lv', A.pv, .int .i64 ((A.n : Int) + 1), .bool A.dead] 83 (0, 0)) = some (Obj.cells #[.map (some a), .map (some b), lv', A.pv, .int .i64 ((A.n + 1 : Nat) : Int), .bool A.dead] 83 (0, 0))
    rw [Int.natCast_add]
    rfl
  · show FMap _ a (doneF A.sure (A.loose ++ [c]))
    rw [doneF_snoc]
    exact ma
  · have hr : w8.ownsRow B 122 4 lv' (A.loose ++ [c]).length ((A.loose ++ [c]).flatMap chCells) := by
      rw [List.length_append, List.flatMap_append]
      simpa using own8
    refine row_keep hr fs (fun k hk e => ?_)
    subst e
    obtain ⟨_, c', f', hb'⟩ := row_tag own8 hk
    rw [p8] at hb'
    cases hb'
  · intro x hx
    rcases List.mem_append.1 hx with hx | hx
    · exact h.ok x hx
    · rw [List.mem_singleton.1 hx]; exact hc
  · have tagA : DkB Xm V a := ⟨.inl (map_tag h.now rfl), h.nx a (.inr (.inl rfl))⟩
    refine ⟨?_, ?_, ?_, ?_, fun k hk hn => ?_⟩
    · exact fs.os.trans (f8.os.trans f7.os)
    · exact fs.tape.trans (f8.tape.trans f7.tape)
    · exact fs.output.trans (f8.output.trans f7.output)
    · exact Nat.le_trans f7.size (Nat.le_trans f8.size fs.size)
    · have ka : k ≠ a := fun e => hn ⟨by rw [e]; exact h.hn a rfl, by rw [e]; exact tagA⟩
      have kl : ¬ lv.ownBlock = some k := fun e => by
        obtain ⟨h1, c', f', hb'⟩ := row_tag h.row e
        exact hn ⟨h1, .inr ⟨_, _, _, hb', .inr rfl⟩, h.nx k (.inr (.inr (.inr e)))⟩
      have kp : k ≠ p := fun e => hn ⟨by rw [e]; exact h.hp, by rw [e]; exact ⟨.inr ⟨_, _, _, h.blk, .inl rfl⟩, h.nx p (.inl rfl)⟩⟩
      have s7 := f7.size
      have s8 := f8.size
      exact (fs.block k (by omega) kp).trans ((f8.block k (by omega) kl).trans (f7.block k hk ka))
/-- Both maps are there behind the first change. -/
theorem att_maps (h : DA Xm w B p A none none lv) (hB : B ≤ w.heap.size) : DA Xm ((((w.alloc (.map #[] 0)).alloc (.map #[] 0)).setCell ⟨p, 0, none⟩ (.map (some w.heap.size))).setCell ⟨p, 1, none⟩ (.map (some (w.heap.size + 1)))) B p A (some w.heap.size) (some (w.heap.size + 1)) lv ∧ FrD Xm B w ((((w.alloc (.map #[] 0)).alloc (.map #[] 0)).setCell ⟨p, 0, none⟩ (.map (some w.heap.size))).setCell ⟨p, 1, none⟩ (.map (some (w.heap.size + 1)))) := by
  have b1 := one_newD w (.map #[] 0)
  have b2 := one_newD (w.alloc (.map #[] 0)) (.map #[] 0)
  have s1 : (w.alloc (.map #[] 0)).heap.size = w.heap.size + 1 := by simp
  have b12 : Below w.heap.size w ((w.alloc (.map #[] 0)).alloc (.map #[] 0)) := b1.trans (b2.mono (by omega))
  have hD := h.new b12
  have e1 : A.sure = [] := h.sure
  have e2 : A.loose = [] := by
    rcases h.two with ⟨_, _, e⟩ | ⟨a', b', e1, _⟩
    · exact e
    · cases e1
  have e3 : A.now = [] := h.now
  have m1 : FMap ((w.alloc (.map #[] 0)).alloc (.map #[] 0)) w.heap.size [] := (FMap.made w).new b2
  have m2 : FMap ((w.alloc (.map #[] 0)).alloc (.map #[] 0)) (w.heap.size + 1) [] := by rw [← s1]; exact FMap.made _
  have hp := h.plt
  have fs : Fr ((w.alloc (.map #[] 0)).alloc (.map #[] 0)) ((((w.alloc (.map #[] 0)).alloc (.map #[] 0)).setCell ⟨p, 0, none⟩ (.map (some w.heap.size))).setCell ⟨p, 1, none⟩ (.map (some (w.heap.size + 1)))) (fun k => k = p) := (Fr.setCell (S := fun k => k = p) _ ⟨p, 0, none⟩ _ rfl).trans (Fr.setCell (S := fun k => k = p) _ ⟨p, 1, none⟩ _ rfl) (fun _ _ h => h)
  have q1 := blk_set (i := 0) (.map (some w.heap.size)) hD.blk
  have q2 := blk_set (i := 1) (.map (some (w.heap.size + 1))) q1
  refine ⟨⟨q2, ?_, ?_, .inr ⟨_, _, rfl, rfl, by omega⟩, row_keep hD.row fs (fun k hk e => by subst e; exact hD.prow hk), h.ok, h.hp, ?_, ?_, ?_, fun k hk => Nat.lt_of_lt_of_le (hD.lx k hk) fs.size⟩, ?_⟩
  · show FMap _ w.heap.size A.now
    rw [e3]
    exact m1.same (fs.block _ m1.lt (by omega))
  · show FMap _ (w.heap.size + 1) A.sure
    rw [e1]
    exact m2.same (fs.block _ m2.lt (by omega))
  · intro k e; cases e; exact hB
  · intro k e; cases e; omega
  · intro k e hx
    have := h.lx k hx
    rcases e with e | e | e | e
    · exact h.nx k (.inl e) hx
    · cases e; omega
    · cases e; omega
    · exact h.nx k (.inr (.inr (.inr e))) hx
  · exact (FrD.new b12).trans (hD.frP fs (fun _ e => e))
set_option linter.unusedSimpArgs false in
set_option maxRecDepth 100000 in
set_option maxHeartbeats 4000000 in
theorem attempt_any {mn ms : Option Nat} (h : DA Xm w B p A mn ms lv) (hB : B ≤ w.heap.size) (hqu : Quiet w A) (hc : c.ok) (hl : A.now.length < maxLen) (hf : (ofF c.nm A.now).length + c.s.length ≤ maxLen) (hn : A.n ≤ 1000000) (hr : A.loose.length ≤ 1000000) : Calls Tryz.prog 97 #[.pointer (some ⟨p, 0, none⟩), chV c] w fun r w' => r = .returned (.int .i64 0) ∧ DkAt Xm w' B p (A.add c) ∧ FrD Xm B w w' := by
  obtain ⟨i0, hi, hz0, hz1, hz2⟩ := d_info infoCH
  have HH : Hid (DA Xm w B p A mn ms lv) := h
  have HBB : Hid (B ≤ w.heap.size) := hB
  have HQu0 : Hid (Quiet w A) := hqu
  have HC : Hid c.ok := hc
  have hmm := @run_makeMap Tryz.prog
  have hq := fun w => run_eql_map_nil_sl (P := Tryz.prog) w 80 _ _ mn Tryz.underlying80
  have htwo := h.two
  have HNQ : Hid (lv.ownBlock ≠ some w.heap.size) := fun e => by
    obtain ⟨_, c', f', hb⟩ := row_tag h.row e
    exact absurd (lt_blk hb) (Nat.lt_irrefl _)
  clear h hB hc hqu
  unfold chV
  go_enter Tryz.func97, Tryz.ntmps97
  go_upto_region 1 with (fail)
  generalize hW : World.alloc _ _ = W
  have hb0 : Below w.heap.size w W := by rw [← hW]; exact one_newD _ _
  have HQ : Hid (W.heap[w.heap.size]? = some (.cells #[.int .i64 c.k, .string (str c.nm), .string (str c.to), .string (str c.s)] 122 (0, 0))) := by show _ = _; rw [← hW]; exact heap_alloc_new _ _
  have HD : Hid (DA Xm W B p A mn ms lv) := HH.out.new hb0
  have HQu : Hid (Quiet W A) := HQu0.out.new hb0
  have HF : Hid (FrD Xm B w W) := FrD.new hb0
  have HBW : Hid (B ≤ W.heap.size) := Nat.le_trans HBB.out hb0.size
  clear hW hb0
  obtain ⟨q, hq0⟩ : ∃ q, w.heap.size = q := ⟨_, rfl⟩
  rw [hq0] at HQ HNQ ⊢
  clear hq0 HH HBB HQu0
  go_upto_region 2 with (go_at_call 131; refine (struck_quiet HD.out HQu.out).mono ?_; rintro r w1 ⟨rfl, hb1⟩; have HB1 : Hid (Below W.heap.size W w1) := hb1; clear hb1)
  generalize hW2 : World.alloc _ _ = W2
  have hb2 : Below W.heap.size W W2 := by rw [← hW2]; exact HB1.out.trans ((one_newD _ _).mono HB1.out.size)
  have HQ2 : Hid (W2.heap[q]? = some (.cells #[.int .i64 c.k, .string (str c.nm), .string (str c.to), .string (str c.s)] 122 (0, 0))) := (hb2.block q (lt_blk HQ.out)).trans HQ.out
  have hD2 := HD.out.new hb2
  have HF2 : Hid (FrD Xm B w W2) := HF.out.trans (FrD.new hb2)
  have hB2 : B ≤ W2.heap.size := Nat.le_trans HBW.out hb2.size
  clear hW2 hb2 HQ HD HF HBW HB1
  rcases htwo with ⟨rfl, rfl, hnil⟩ | ⟨a, b, rfl, rfl, hab⟩
  case' inl =>
    have hE := att_maps hD2 hB2
    obtain ⟨V1, hV1⟩ : ∃ V1, (W2.alloc (.map #[] 0)).alloc (.map #[] 0) = V1 := ⟨_, rfl⟩
    have hb3 : Below W2.heap.size W2 V1 := by rw [← hV1]; exact (one_newD _ _).trans ((one_newD _ _).mono (by simp))
    rw [hV1] at hE
    have hD3 := hD2.new hb3
    obtain ⟨c0, _, _, _, _, _⟩ := hD2.cells
    obtain ⟨c00, c01, _, _, _, _⟩ := hD3.cells
    have f0 := hD3.free 0
    have f1 := hD3.free 1
    have HE : Hid _ := hE
    have HS : Hid (B ≤ W2.heap.size) := hB2
    have HS3 : Hid (W2.heap.size ≤ V1.heap.size) := hb3.size
    have HQ3 : Hid (V1.heap[q]? = some (.cells #[.int .i64 c.k, .string (str c.nm), .string (str c.to), .string (str c.s)] 122 (0, 0))) := (hb3.block q (lt_blk HQ2.out)).trans HQ2.out
    have HQP : Hid (q ≠ p) := by
      intro e
      have e1 := HQ3.out
      rw [e, hD3.blk] at e1
      cases e1
    clear hE hD2 hnil hB2 hD3 hb3
    go_upto_region 7 with (fail)
    have hQ := HQ3.out
    have hE := HE.out
    generalize hV : World.setCell _ _ _ = V
    rw [hV] at hE
    have fs : Fr V1 V (fun k => k = p) := by rw [← hV]; exact (Fr.setCell (S := fun k => k = p) _ ⟨p, 0, none⟩ _ rfl).trans (Fr.setCell (S := fun k => k = p) _ ⟨p, 1, none⟩ _ rfl) (fun _ _ h => h)
    have hQ' := (fs.block q (lt_blk hQ) HQP.out).trans hQ
    have HSV : Hid (B ≤ V.heap.size) := Nat.le_trans HS.out (Nat.le_trans HS3.out fs.size)
    have hFV := HF2.out.trans hE.2
    have hDV := hE.1
    clear hE hV fs hQ HE HS HS3 HQ3 HQP HQ2 HF2 hV1 c0 c00 c01 f0 f1
    generalize W2.heap.size = a at hDV ⊢
    generalize a + 1 = b at hDV ⊢
  case' inr =>
    obtain ⟨c0, _, _, _, _, _⟩ := hD2.cells
    have HD2 : Hid (DA Xm W2 B p A (some a) (some b) lv) := hD2
    have HSV : Hid (B ≤ W2.heap.size) := hB2
    clear hD2 hB2 hab
    go_upto_region 7 with (fail)
    have hQ' := HQ2.out
    have hDV := HD2.out
    have hFV := HF2.out
    clear HQ2 HD2 HF2 c0
    generalize W2 = V at *
  all_goals
    have hVd0 : Below V.heap.size V V.drew := Below.drew (Below.refl _ V)
    obtain ⟨Vd, hVd⟩ : ∃ Vd, V.drew = Vd := ⟨_, rfl⟩
    rw [hVd] at hVd0
    have hDd := hDV.new hVd0
    have hQd := (hVd0.block q (lt_blk hQ')).trans hQ'
    have HFd : Hid (FrD Xm B w Vd) := hFV.trans (FrD.new hVd0)
    have HSd : Hid (B ≤ Vd.heap.size) := Nat.le_trans HSV.out hVd0.size
    obtain ⟨ao, cp, rfl⟩ := hDd.shape
    have hF0 : FMap Vd a A.now := hDd.now
    have HD : Hid (DA Xm Vd B p A (some a) (some b) (.slice ao A.loose.length cp)) := hDd
    have HQ : Hid (Vd.heap[q]? = some (.cells #[.int .i64 c.k, .string (str c.nm), .string (str c.to), .string (str c.s)] 122 (0, 0))) := hQd
    have HDO : Hid (Calls Tryz.prog 68 #[.agg #[.int .i64 c.k, .string (str c.nm), .string (str c.to), .string (str c.s)], .map (some a)] Vd fun r w' => r = .returned (.tuple #[]) ∧ FMap w' a (doF A.now c) ∧ Fr Vd w' (fun k => k = a)) := do_any hF0 c HC.out hl hf
    obtain ⟨y0, _, y2, _, _, _⟩ := hDd.cells
    obtain ⟨z0, z1, z2, z3⟩ := box4 hQd
    obtain ⟨m0, hm0⟩ : ∃ m0, A.loose.length = m0 := ⟨_, rfl⟩
    rw [hm0] at y2
    have HM : Hid (A.loose.length = m0) := hm0
    clear hF0 hDd hQd hDV hQ' hFV HSV hVd0 hm0
    refine wp_calmD ?_
    refine wp_region_L [5] (fun w' : World => w'.cell? ⟨p, 0, none⟩ = some (.map (some a)) ∧ w'.cell? ⟨p, 2, none⟩ = some (.slice ao m0 cp) ∧ w'.cell? ⟨q, 0, none⟩ = some (.int .i64 c.k) ∧ w'.cell? ⟨q, 1, none⟩ = some (.string (str c.nm)) ∧ w'.cell? ⟨q, 2, none⟩ = some (.string (str c.to)) ∧ w'.cell? ⟨q, 3, none⟩ = some (.string (str c.s))) (by kernel_rfl) ?_
    rw [hVd]
    clear hVd
    have hS : (fun w' : World => w'.cell? ⟨p, 0, none⟩ = some (.map (some a)) ∧ w'.cell? ⟨p, 2, none⟩ = some (.slice ao m0 cp) ∧ w'.cell? ⟨q, 0, none⟩ = some (.int .i64 c.k) ∧ w'.cell? ⟨q, 1, none⟩ = some (.string (str c.nm)) ∧ w'.cell? ⟨q, 2, none⟩ = some (.string (str c.to)) ∧ w'.cell? ⟨q, 3, none⟩ = some (.string (str c.s))) Vd := ⟨y0, y2, z0, z1, z2, z3⟩
    refine wpAnyL_take (i := 0) 32 (v := .agg #[.int .i64 c.k, .string (str c.nm), .string (str c.to), .string (str c.s)]) rfl rfl (by kernel_rfl) (by kernel_rfl) (by kernel_rfl) (by kernel_rfl) (by kernel_rfl) (by kernel_rfl) (fun _ _ _ h => h) hS (by rfl) (by intro w' hSw; obtain ⟨y0, y2, z0, z1, z2, z3⟩ := hSw; go_simp <;> with_reducible rfl) ?_
    simp only [Act.put, List.setIfInBounds_toArray, List.set_cons_zero, List.set_cons_succ]
    refine wpAnyL_take (i := 1) 33 (v := .pointer (some ⟨p, 0, none⟩)) rfl rfl (by kernel_rfl) (by kernel_rfl) (by kernel_rfl) (by kernel_rfl) (by kernel_rfl) (by kernel_rfl) (fun _ _ _ h => h) hS (by rfl) (by intro w' hSw; obtain ⟨y0, y2, z0, z1, z2, z3⟩ := hSw; go_simp <;> with_reducible rfl) ?_
    simp only [Act.put, List.setIfInBounds_toArray, List.set_cons_zero, List.set_cons_succ]
    refine wpAnyL_take (i := 2) 34 (v := .pointer (some ⟨p, 0, none⟩)) rfl rfl (by kernel_rfl) (by kernel_rfl) (by kernel_rfl) (by kernel_rfl) (by kernel_rfl) (by kernel_rfl) (fun _ _ _ h => h) hS (by rfl) (by intro w' hSw; obtain ⟨y0, y2, z0, z1, z2, z3⟩ := hSw; go_simp <;> with_reducible rfl) ?_
    simp only [Act.put, List.setIfInBounds_toArray, List.set_cons_zero, List.set_cons_succ]
    refine wpAnyL_take (i := 3) 35 (v := .pointer (some ⟨p, 0, none⟩)) rfl rfl (by kernel_rfl) (by kernel_rfl) (by kernel_rfl) (by kernel_rfl) (by kernel_rfl) (by kernel_rfl) (fun _ _ _ h => h) hS (by rfl) (by intro w' hSw; obtain ⟨y0, y2, z0, z1, z2, z3⟩ := hSw; go_simp <;> with_reducible rfl) ?_
    simp only [Act.put, List.setIfInBounds_toArray, List.set_cons_zero, List.set_cons_succ]
    refine wpAnyL_take (i := 4) 36 (v := .map (some a)) rfl rfl (by kernel_rfl) (by kernel_rfl) (by kernel_rfl) (by kernel_rfl) (by kernel_rfl) (by kernel_rfl) (fun _ _ _ h => h) hS (by rfl) (by intro w' hSw; obtain ⟨y0, y2, z0, z1, z2, z3⟩ := hSw; go_simp <;> with_reducible rfl) ?_
    simp only [Act.put, List.setIfInBounds_toArray, List.set_cons_zero, List.set_cons_succ]
    refine wpAnyL_one (i := 5) (by kernel_rfl) rfl (fun Ka hKa => ?_)
    go_simp
    refine Calls.mono HDO.out ?_
    rintro r w7 ⟨rfl, m7, f7⟩
    refine hKa.out _ _ (fun h => absurd h (Bool.eq_false_iff.1 (by kernel_rfl))) ?_
    clear hKa Ka HDO
    refine wpAnyL_done (by kernel_rfl) ?_ _
    have b70 : Below w7.heap.size w7 w7.drew := Below.drew (Below.refl _ w7)
    obtain ⟨w8, hw8⟩ : ∃ w8, w7.drew = w8 := ⟨_, rfl⟩
    rw [hw8] at b70
    have hpa : p ≠ a := fun e => HD.out.pmap.1 (by rw [e])
    have hqa : q ≠ a := fun e => by
      obtain ⟨es, cc, hh⟩ := map_tag HD.out.now rfl
      have e1 := HQ.out
      rw [e, hh] at e1
      cases e1
    have f78 : Fr Vd w8 (fun k => k = a) := f7.trans (Fr.ofBelow b70 (fun k => k = a)) (fun _ _ h => h)
    have m8 : FMap w8 a (doF A.now c) := m7.new b70
    have x2 := fr_cellD f78 hpa y2
    have x0 := fr_cellD f78 hpa y0
    have p8 := (f78.block p HD.out.plt hpa).trans HD.out.blk
    have q8 := (f78.block q (lt_blk HQ.out) hqa).trans HQ.out
    obtain ⟨u0, u1, u2, u3⟩ := box4 q8
    have hrow8 := row_keep HD.out.row f78 (fun k hk e => by subst e; exact (HD.out.mrow hk).1 rfl)
    rw [HM.out] at hrow8 p8
    have HR8 : Hid (w8.ownsRow B 122 4 (.slice ao m0 cp) m0 (A.loose.flatMap chCells)) := hrow8
    have HP8 : Hid (w8.heap[p]? = some (.cells #[.map (some a), .map (some b), .slice ao m0 cp, A.pv, .int .i64 A.n, .bool A.dead] 83 (0, 0))) := p8
    have HF7 : Hid (Fr Vd w8 (fun k => k = a)) := f78
    have HM8 : Hid (FMap w8 a (doF A.now c)) := m8
    have hS8 : B ≤ w8.heap.size := Nat.le_trans HSd.out f78.size
    have HMR : Hid (m0 ≤ 1000000) := by show m0 ≤ 1000000; rw [← HM.out]; exact hr
    clear hS y0 y2 z0 z1 z2 z3 m7 f7 f78 m8 p8 q8 hrow8 b70 hpa hqa
    go_wp2_with (fail)
    refine wp_calmD ?_
    refine wp_region_L [10] (fun w' : World => w'.cell? ⟨p, 0, none⟩ = some (.map (some a)) ∧ w'.cell? ⟨p, 2, none⟩ = some (.slice ao m0 cp) ∧ w'.cell? ⟨q, 0, none⟩ = some (.int .i64 c.k) ∧ w'.cell? ⟨q, 1, none⟩ = some (.string (str c.nm)) ∧ w'.cell? ⟨q, 2, none⟩ = some (.string (str c.to)) ∧ w'.cell? ⟨q, 3, none⟩ = some (.string (str c.s))) (by kernel_rfl) ?_
    rw [hw8]
    clear hw8
    have hS : (fun w' : World => w'.cell? ⟨p, 0, none⟩ = some (.map (some a)) ∧ w'.cell? ⟨p, 2, none⟩ = some (.slice ao m0 cp) ∧ w'.cell? ⟨q, 0, none⟩ = some (.int .i64 c.k) ∧ w'.cell? ⟨q, 1, none⟩ = some (.string (str c.nm)) ∧ w'.cell? ⟨q, 2, none⟩ = some (.string (str c.to)) ∧ w'.cell? ⟨q, 3, none⟩ = some (.string (str c.s))) w8 := ⟨x0, x2, u0, u1, u2, u3⟩
    refine wpAnyL_take (i := 0) 38 (v := .pointer (some ⟨p, 0, none⟩)) rfl rfl (by kernel_rfl) (by kernel_rfl) (by kernel_rfl) (by kernel_rfl) (by kernel_rfl) (by kernel_rfl) (fun _ _ _ h => h) hS (by rfl) (by intro w' hSw; obtain ⟨y0, y2, z0, z1, z2, z3⟩ := hSw; go_simp <;> with_reducible rfl) ?_
    simp only [Act.put, List.setIfInBounds_toArray, List.set_cons_zero, List.set_cons_succ]
    refine wpAnyL_take (i := 1) 39 (v := .pointer (some ⟨p, 0, none⟩)) rfl rfl (by kernel_rfl) (by kernel_rfl) (by kernel_rfl) (by kernel_rfl) (by kernel_rfl) (by kernel_rfl) (fun _ _ _ h => h) hS (by rfl) (by intro w' hSw; obtain ⟨y0, y2, z0, z1, z2, z3⟩ := hSw; go_simp <;> with_reducible rfl) ?_
    simp only [Act.put, List.setIfInBounds_toArray, List.set_cons_zero, List.set_cons_succ]
    refine wpAnyL_take (i := 2) 40 (v := .pointer (some ⟨p, 0, none⟩)) rfl rfl (by kernel_rfl) (by kernel_rfl) (by kernel_rfl) (by kernel_rfl) (by kernel_rfl) (by kernel_rfl) (fun _ _ _ h => h) hS (by rfl) (by intro w' hSw; obtain ⟨y0, y2, z0, z1, z2, z3⟩ := hSw; go_simp <;> with_reducible rfl) ?_
    simp only [Act.put, List.setIfInBounds_toArray, List.set_cons_zero, List.set_cons_succ]
    refine wpAnyL_take (i := 3) 41 (v := .pointer (some ⟨p, 2, none⟩)) rfl rfl (by kernel_rfl) (by kernel_rfl) (by kernel_rfl) (by kernel_rfl) (by kernel_rfl) (by kernel_rfl) (fun _ _ _ h => h) hS (by rfl) (by intro w' hSw; obtain ⟨y0, y2, z0, z1, z2, z3⟩ := hSw; go_simp <;> with_reducible rfl) ?_
    simp only [Act.put, List.setIfInBounds_toArray, List.set_cons_zero, List.set_cons_succ]
    refine wpAnyL_take (i := 4) 42 (v := .slice ao m0 cp) rfl rfl (by kernel_rfl) (by kernel_rfl) (by kernel_rfl) (by kernel_rfl) (by kernel_rfl) (by kernel_rfl) (fun _ _ _ h => h) hS (by rfl) (by intro w' hSw; obtain ⟨y0, y2, z0, z1, z2, z3⟩ := hSw; go_simp <;> with_reducible rfl) ?_
    simp only [Act.put, List.setIfInBounds_toArray, List.set_cons_zero, List.set_cons_succ]
    refine wpAnyL_take (i := 5) 43 (v := .agg #[.int .i64 c.k, .string (str c.nm), .string (str c.to), .string (str c.s)]) rfl rfl (by kernel_rfl) (by kernel_rfl) (by kernel_rfl) (by kernel_rfl) (by kernel_rfl) (by kernel_rfl) (fun _ _ _ h => h) hS (by rfl) (by intro w' hSw; obtain ⟨y0, y2, z0, z1, z2, z3⟩ := hSw; go_simp <;> with_reducible rfl) ?_
    simp only [Act.put, List.setIfInBounds_toArray, List.set_cons_zero, List.set_cons_succ]
    refine wpAnyL_one (i := 6) (by kernel_rfl) rfl (fun Kb hKb => ?_)
    go_simp
    have bel0 : Below w8.heap.size w8 (w8.alloc (.cells #[.int .i64 c.k, .string (str c.nm), .string (str c.to), .string (str c.s)] 122)) := one_newD _ _
    have hcell : ∀ (bb oo : Nat) (uu : Value), w8.cell? ⟨bb, oo, none⟩ = some uu → (w8.alloc (.cells #[.int .i64 c.k, .string (str c.nm), .string (str c.to), .string (str c.s)] 122)).cell? ⟨bb, oo, none⟩ = some uu := fun bb oo uu hh => (bel0.cell (p := ⟨bb, oo, none⟩) (lt_cellD hh)).trans hh
    refine hKb.out _ _ (fun _ => ⟨hcell _ _ _ x0, hcell _ _ _ x2, hcell _ _ _ u0, hcell _ _ _ u1, hcell _ _ _ u2, hcell _ _ _ u3⟩) ?_
    clear hKb Kb
    try simp only [Act.put, List.setIfInBounds_toArray, List.set_cons_zero, List.set_cons_succ]
    refine wpAnyL_one (i := 7) (by kernel_rfl) rfl (fun Kc hKc => ?_)
    refine d_step_append rfl (.tmp 42) (.tmp 44) 81 rfl B 122 i0 (.agg #[.int .i64 0, .string (str []), .string (str []), .string (str [])]) 4 56 Tryz.underlying81 hi hz0 hz1 hz2 rfl (by decide) (.slice ao m0 cp) m0 (A.loose.flatMap chCells) (by simp [Act.eval]) (row_keep HR8.out (Fr.ofBelow bel0 (fun _ => False)) (fun _ _ h => h)) ⟨w8.heap.size, 0, none⟩ 1 1 [.int .i64 c.k, .string (str c.nm), .string (str c.to), .string (str c.s)] (by simp [Act.eval]) rfl (w_four (heap_alloc_new w8 (.cells #[.int .i64 c.k, .string (str c.nm), .string (str c.to), .string (str c.s)] 122))) (by intro u hu; simp at hu; rcases hu with rfl | rfl | rfl | rfl <;> rfl) (by have := HMR.out; unfold maxLen; omega) (by have := HMR.out; omega) (Nat.le_trans hS8 bel0.size) ?_
    intro v1 w9 own9 gr9 at9
    have hsh : ∃ a1 m1 c1, v1 = .slice a1 m1 c1 := by
      rcases own9.2 with ⟨h1, h2⟩ | ⟨g, cap, cur, rfl, _⟩
      · exact ⟨none, 0, 0, h1⟩
      · exact ⟨_, _, _, rfl⟩
    obtain ⟨a1, m1, c1, rfl⟩ := hsh
    have f9 : Fr w8 w9 (fun k => (Value.slice ao m0 cp).ownBlock = some k) := ((Fr.ofBelow bel0 (fun _ => False)).mono (fun _ _ h => h.elim)).trans (Fr.grown gr9 (fun k hk => hk)) (fun _ _ h => h)
    have hnp : ¬ (Value.slice ao m0 cp).ownBlock = some p := fun e => by
      obtain ⟨_, cc, ff, hh⟩ := row_tag HR8.out e
      rw [HP8.out] at hh
      cases hh
    have p9 := (f9.block p (lt_blk HP8.out) hnp).trans HP8.out
    have c92 : w9.cell? ⟨p, 2, none⟩ = some (.slice ao m0 cp) := by simp [World.cell?, p9]
    have c94 : w9.cell? ⟨p, 4, none⟩ = some (.int .i64 A.n) := by simp [World.cell?, p9]
    have fz2 : w9.frozen? ⟨p, 2, none⟩ = false := by simp [World.frozen?, p9]
    have fz4 : w9.frozen? ⟨p, 4, none⟩ = false := by simp [World.frozen?, p9]
    have hnq : ¬ (Value.slice ao m0 cp).ownBlock = some q := by
      rw [← HM.out]
      exact HNQ.out
    refine hKc.out _ _ (fun _ => ⟨fr_cellD f9 hnp x0, fr_cellD f9 hnp x2, fr_cellD f9 hnq u0, fr_cellD f9 hnq u1, fr_cellD f9 hnq u2, fr_cellD f9 hnq u3⟩) ?_
    have x09 := fr_cellD f9 hnp x0
    have u09 := fr_cellD f9 hnq u0
    have u19 := fr_cellD f9 hnq u1
    have u29 := fr_cellD f9 hnq u2
    have u39 := fr_cellD f9 hnq u3
    clear hKc Kc
    try simp only [Act.put, List.setIfInBounds_toArray, List.set_cons_zero, List.set_cons_succ]
    refine wpAnyL_one (i := 8) (by kernel_rfl) rfl (fun Kd hKd => ?_)
    go_simp
    refine hKd.out _ _ (fun _ => ⟨x09, c92, u09, u19, u29, u39⟩) ?_
    clear hKd Kd
    try simp only [Act.put, List.setIfInBounds_toArray, List.set_cons_zero, List.set_cons_succ]
    refine wpAnyL_one (i := 9) (by kernel_rfl) rfl (fun Ke hKe => ?_)
    go_simp
    refine hKe.out _ _ (fun _ => ⟨x09, c92, u09, u19, u29, u39⟩) ?_
    clear hKe Ke
    try simp only [Act.put, List.setIfInBounds_toArray, List.set_cons_zero, List.set_cons_succ]
    refine wpAnyL_one (i := 10) (by kernel_rfl) rfl (fun Kf hKf => ?_)
    go_simp
    refine hKf.out _ _ (fun h => absurd h (Bool.eq_false_iff.1 (by kernel_rfl))) ?_
    clear hKf Kf
    refine wpAnyL_done (by kernel_rfl) ?_ _
    have own9' : w9.ownsRow B 122 4 (.slice a1 m1 c1) (A.loose.length + 1) (A.loose.flatMap chCells ++ chCells c) := by rw [HM.out]; exact own9
    have hEnd := att_end HD.out HC.out HF7.out HM8.out (by rw [HM.out]; exact f9) own9' (fun k hk => by
      rcases at9 with e | e
      · rw [e] at hk
        exact .inl (by rw [HM.out]; exact hk)
      · rw [e] at hk
        cases hk
        refine .inr ?_
        have := HF7.out.size
        rw [World.size_alloc]
        omega)
    have HEnd : Hid _ := hEnd
    have d4 : (w9.setCell ⟨p, 2, none⟩ (.slice a1 m1 c1)).cell? ⟨p, 4, none⟩ = some (.int .i64 A.n) := by
      have := blk_set (i := 2) (.slice a1 m1 c1) p9
      simp [World.cell?, this]
    have g4 : (w9.setCell ⟨p, 2, none⟩ (.slice a1 m1 c1)).frozen? ⟨p, 4, none⟩ = false := by
      have := blk_set (i := 2) (.slice a1 m1 c1) p9
      simp [World.frozen?, this]
    clear hEnd own9 own9' gr9 at9 f9 hnp hnq p9 c92 c94 fz2 fz4 x09 u09 u19 u29 u39 bel0 hcell hS x0 x2 u0 u1 u2 u3 HR8 HP8 HM8
    obtain ⟨w10, hw10⟩ : ∃ w10, w9.setCell ⟨p, 2, none⟩ (.slice a1 m1 c1) = w10 := ⟨_, rfl⟩
    rw [hw10] at HEnd d4 g4 ⊢
    clear hw10
    go_wp2_with (fail)
    go_ret
    exact ⟨rfl, ⟨_, _, _, HEnd.out.1⟩, HFd.out.trans HEnd.out.2⟩
end
end Go.Proofs.YtnhjflebaeokeaaGreat
end
