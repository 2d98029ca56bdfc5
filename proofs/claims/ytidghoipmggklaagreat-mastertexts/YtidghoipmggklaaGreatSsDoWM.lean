import Derived.Test.YtidghoipmggklaaGreatSsInsM
import Derived.Laws.ResultCell
import Derived.Laws.Tables
import Derived.Deep.QuietTactic
import Derived.BigQuiet
import Derived.BigRegion
import Derived.Deep.Cut
import Derived.Deep.DeepCutAuto
import Derived.Deep.CutBlock
import Derived.Test.YtidghoipmggklaaGreatOrdLM
import Derived.Deep.RegionLaw
import Derived.Defers
import Derived.Recover
import Derived.Shelf.Abstract
section
/- A table of sessions in memory: New, Len, find, last, Seq. -/
namespace Go.Proofs.YtidghoipmggklaaGreat
open Go.RowKit
attribute [local go_sem] Oper.semAt_some
/-- A table at p: its box, its row. -/
structure TA (w : World) (B p : Nat) (v : Value) (L : List Req) : Prop where
  box : w.heap[p]? = some (.cells #[v] 234 (0, 0))
  low : B ≤ p
  row : RqO 230 w B v L
section
variable {w w' : World} {B p : Nat} {v : Value} {L : List Req}
theorem TA.lt (h : TA w B p v L) : p < w.heap.size := slt_blk h.box
theorem TA.c0 (h : TA w B p v L) : w.cell? ⟨p, 0, none⟩ = some v := by simp [World.cell?, h.box]
theorem TA.f0 (h : TA w B p v L) : w.frozen? ⟨p, 0, none⟩ = false := by simp [World.frozen?, h.box]
theorem TA.ne (h : TA w B p v L) : v.ownBlock ≠ some p := fun e => by
  obtain ⟨_, c, f, hk⟩ := srow_tag h.row e
  rw [h.box] at hk
  simp at hk
theorem TA.kept (h : TA w B p v L) {S : Nat → Prop} (f : Fr w w' S) (hp : ¬ S p) (hv : ∀ k, v.ownBlock = some k → ¬ S k) : TA w' B p v L := ⟨(f.block p h.lt hp).trans h.box, h.low, h.row.kept f hv⟩
theorem TA.new (h : TA w B p v L) (hb : Below w.heap.size w w') : TA w' B p v L := h.kept (Fr.ofBelow hb (fun _ => False)) (fun h => h) (fun _ _ h => h)
theorem TA.base (h : TA w B p v L) : B ≤ w.heap.size := by have := h.low; have := h.lt; omega
end
/-- What a call on a table leaves. -/
def TTo (w w' : World) (B p : Nat) (v : Value) (L : List Req) : Prop := ∃ v', TA w' B p v' L ∧ Fr w w' (fun k => k = p ∨ v.ownBlock = some k) ∧ Row w v v'
theorem TTo.same {w w' : World} {B p : Nat} {v : Value} {L : List Req} (h : TA w B p v L) (hb : Below w.heap.size w w') : TTo w w' B p v L := ⟨v, h.new hb, Fr.ofBelow hb _, Row.refl _ _⟩
theorem TTo.then {w w1 w2 : World} {B p : Nat} {v v1 : Value} {L : List Req} (f : Fr w w1 (fun k => k = p ∨ v.ownBlock = some k)) (hr : Row w v v1) (h : TTo w1 w2 B p v1 L) : TTo w w2 B p v L := by
  obtain ⟨v2, h2, f2, r2⟩ := h
  refine ⟨v2, h2, f.trans f2 (fun k hk e => ?_), hr.trans r2 f.size⟩
  rcases e with e | e
  · exact .inl e
  · rcases hr with hr | ⟨g, hr, hg⟩
    · exact .inr (hr ▸ e)
    · rw [hr] at e
      cases e
      omega
theorem size_ask : (Tryz.prog.info? 230).map (·.size) = some 3 := by kernel_rfl
theorem snew (w : World) (B : Nat) (hB : B ≤ w.heap.size) : Calls Tryz.prog 136 #[] w fun r w' => r = .returned (.pointer (some ⟨w.heap.size, 0, none⟩)) ∧ TA w' B w.heap.size (.slice none 0 0) [] ∧ Below w.heap.size w w' := by
  go_enter Tryz.func136, Tryz.ntmps136
  go_wp2
  go_ret
  exact ⟨rfl, ⟨heap_alloc_new _ _, hB, RqO.nil _ _ _⟩, sone_new _ _⟩
theorem sfind {w : World} {B p : Nat} {v : Value} {L : List Req} (x : Int) (h : TA w B p v L) (hl : L.length ≤ 1000000) (hr : RiseQ L) : Calls Tryz.prog 184 #[.pointer (some ⟨p, 0, none⟩), .int .i64 x] w fun r w' => r = .returned (.tuple #[.int .i64 (posR L x), .bool (isR L x)]) ∧ Below w.heap.size w w' := by
  have c0 := h.c0
  have HS : Hid (RqS w v L) := h.row.toS
  obtain ⟨ao, c, rfl, _⟩ := h.row.shape
  have hB := sbsearch x HS.out (by omega) hr
  clear h hr
  go_enter Tryz.func184, Tryz.ntmps184
  go_wp2_with (go_at_call 224; refine hB.mono ?_; rintro r w1 ⟨rfl, hb1⟩)
  go_ret2
  exact ⟨rfl, hb1⟩
theorem sblk_set {w : World} {g i : Nat} {cs : Array Value} {t : TypeId} (v : Value) (h : w.heap[g]? = some (.cells cs t (0, 0))) : (w.setCell ⟨g, i, none⟩ v).heap[g]? = some (.cells (cs.setIfInBounds i v) t (0, 0)) := by
  have hlt := slt_blk h
  have h' : w.heap[g] = .cells cs t (0, 0) := by simpa [Array.getElem?_eq_getElem hlt] using h
  show (w.heap.modify g _)[g]? = _
  rw [Array.getElem?_eq_getElem (by simpa using hlt), Array.getElem_modify_self, h']
  rfl
theorem sset3 {W : World} {q : Nat} {t : TypeId} {x0 x1 x2 : Value} (a b c : Value) (h : W.heap[q]? = some (.cells #[x0, x1, x2] t (0, 0))) : (((W.setCell ⟨q, 0, none⟩ a).setCell ⟨q, 1, none⟩ b).setCell ⟨q, 2, none⟩ c).heap[q]? = some (.cells #[a, b, c] t (0, 0)) := sblk_set (i := 2) c (sblk_set (i := 1) b (sblk_set (i := 0) a h))
theorem sset3_fr (W : World) (q : Nat) (a b c : Value) : Fr W (((W.setCell ⟨q, 0, none⟩ a).setCell ⟨q, 1, none⟩ b).setCell ⟨q, 2, none⟩ c) (fun k => k = q) := ((Fr.setCell (S := fun k => k = q) W ⟨q, 0, none⟩ a rfl).trans (Fr.setCell (S := fun k => k = q) _ ⟨q, 1, none⟩ b rfl) (fun _ _ h => h)).trans (Fr.setCell (S := fun k => k = q) _ ⟨q, 2, none⟩ c rfl) (fun _ _ h => h)
theorem sbox3 {W : World} {q : Nat} {t : TypeId} {x0 x1 x2 : Value} (h : W.heap[q]? = some (.cells #[x0, x1, x2] t (0, 0))) : W.cell? ⟨q, 0, none⟩ = some x0 ∧ W.cell? ⟨q, 1, none⟩ = some x1 ∧ W.cell? ⟨q, 2, none⟩ = some x2 ∧ W.frozen? ⟨q, 0, none⟩ = false ∧ W.frozen? ⟨q, 1, none⟩ = false ∧ W.frozen? ⟨q, 2, none⟩ = false := by
  refine ⟨?_, ?_, ?_, ?_, ?_, ?_⟩ <;> simp [World.cell?, World.frozen?, h]
set_option maxRecDepth 100000 in
set_option maxHeartbeats 1000000 in
theorem slast {w : World} {B p : Nat} {v : Value} {L : List Req} (x : Int) (h : TA w B p v L) (hl : L.length ≤ 1000000) (hr : RiseQ L) : Calls Tryz.prog 137 #[.pointer (some ⟨p, 0, none⟩), .int .i64 x] w fun r w' => r = .returned (.agg #[.int .i64 (lastR L x).k, .int .i64 (lastR L x).n, .string (lastR L x).s]) ∧ Below w.heap.size w w' := by
  have HT : Hid (TA w B p v L) := h
  have HR : Hid (RiseQ L) := hr
  clear h hr
  go_enter Tryz.func137, Tryz.ntmps137
  go_upto_region 1 with (fail)
  generalize hW : World.alloc _ _ = W
  have hB : Below w.heap.size w W := by rw [← hW]; exact sone_new w _
  have hZ : W.heap[w.heap.size]? = some (.cells #[.int .i64 0, .int .i64 0, .string (str [])] 230 (0, 0)) := by rw [← hW]; exact heap_alloc_new w _
  clear hW
  obtain ⟨q, hq⟩ : ∃ q, w.heap.size = q := ⟨_, rfl⟩
  have HB : Hid (Below q w W) := by rw [← hq]; exact hB
  have HQ : Hid (w.heap.size = q) := hq
  rw [hq] at hZ ⊢
  have HZ : Hid (W.heap[q]? = some (.cells #[.int .i64 0, .int .i64 0, .string (str [])] 230 (0, 0))) := hZ
  have HT1 : Hid (TA W B p v L) := HT.out.new hB
  clear hB hZ hq
  have hF := sfind x HT1.out hl HR.out
  have HP : Hid (posR L x ≤ L.length) := posR_le L x
  go_upto_region 2 with (go_at_call 184; refine hF.mono ?_; rintro r w1 ⟨rfl, hb1⟩)
  have HT2 : Hid (TA w1 B p v L) := HT1.out.new hb1
  have HZ2 : Hid (w1.heap[q]? = some (.cells #[.int .i64 0, .int .i64 0, .string (str [])] 230 (0, 0))) := (hb1.block q (slt_blk HZ.out)).trans HZ.out
  have HB2 : Hid (Below q w w1) := HB.out.trans (hb1.mono (by have := HQ.out; have := HB.out.size; omega))
  obtain ⟨z0, z1, z2, f0, f1, f2⟩ := sbox3 HZ2.out
  have HFin : Hid (∀ a b c, Below q w (((w1.setCell ⟨q, 0, none⟩ a).setCell ⟨q, 1, none⟩ b).setCell ⟨q, 2, none⟩ c)) := fun a b c => HB2.out.trans ((sset3_fr w1 q a b c).below (by have := HQ.out; have := HB2.out.size; omega) (fun k hk => by omega))
  clear hF hb1
  by_cases hi : isR L x = true
  · have HI : Hid (isR L x = true) := hi
    have hlt : posR L x < L.length := by
      unfold isR at hi
      cases e : L[posR L x]? with
      | none => rw [e] at hi; simp at hi
      | some y => exact (List.getElem?_eq_some_iff.1 e).1
    have HE : Hid (lastR L x = L[posR L x]) := by
      show _ = _
      unfold isR at hi
      unfold lastR
      rw [List.getElem?_eq_getElem hlt] at hi ⊢
      simp only at hi ⊢
      rw [if_pos (by simpa using hi)]
    have c0 := HT2.out.c0
    obtain ⟨ao, c, rfl, hcap, hg⟩ := HT2.out.row.shape
    obtain ⟨g, rfl⟩ := hg (by omega)
    obtain ⟨e0, e1, e2⟩ := HT2.out.row.at_ _ hlt
    generalize L[posR L x] = y at e0 e1 e2 HE
    rw [hi]
    generalize posR L x = j at hlt e0 e1 e2 ⊢
    clear hi
    go_wp2
    refine bodyPost_ret (v := .agg #[.int .i64 y.k, .int .i64 y.n, .string y.s]) (results_cell_row Tryz.results137 _ _ q 230 _ (0, 0) _ rfl (sset3 _ _ _ HZ2.out) Tryz.underlying230 rfl size_ask) rfl ?_
    exact ⟨by rw [HE.out], by rw [HQ.out]; exact HFin.out _ _ _⟩
  · have hif : isR L x = false := by simpa using hi
    have HE : Hid (lastR L x = ⟨x, 0, str []⟩) := by
      show _ = _
      unfold isR at hif
      unfold lastR
      cases e : L[posR L x]? with
      | none => rfl
      | some y =>
        rw [e] at hif
        simp only at hif ⊢
        rw [if_neg (by simpa using hif)]
    rw [hif]
    clear hi hif
    go_wp2
    refine bodyPost_ret (v := .agg #[.int .i64 x, .int .i64 0, .string (str [])]) (results_cell_row Tryz.results137 _ _ q 230 _ (0, 0) _ rfl (sset3 _ _ _ HZ2.out) Tryz.underlying230 rfl size_ask) rfl ?_
    exact ⟨by rw [HE.out], by rw [HQ.out]; exact HFin.out _ _ _⟩
theorem sseq {w : World} {B p : Nat} {v : Value} {L : List Req} (x : Int) (h : TA w B p v L) (hl : L.length ≤ 1000000) (hr : RiseQ L) : Calls Tryz.prog 174 #[.pointer (some ⟨p, 0, none⟩), .int .i64 x] w fun r w' => r = .returned (.int .i64 (lastR L x).n) ∧ Below w.heap.size w w' := by
  have hF := slast x h hl hr
  have hf : ∀ (a b : Int) (s : ByteArray) (W : World), (Instr.field 230 (.agg #[.int .i64 a, .int .i64 b, .string s]) 1).run Tryz.prog W = .ok (.int .i64 b) W := fun a b s W => by kernel_rfl
  clear h hr
  go_enter Tryz.func174, Tryz.ntmps174
  go_wp2_with (go_at_call 137; refine hF.mono ?_; rintro r w1 ⟨rfl, hb1⟩)
  go_ret
  exact ⟨rfl, hb1⟩
end Go.Proofs.YtidghoipmggklaaGreat
end

section
/- keep: a request is made the last one of its session. -/
namespace Go.Proofs.YtidghoipmggklaaGreat
open Go.RowKit Go.Maps
attribute [local go_sem] Oper.semAt_some
theorem wp_calmS {P : Program} {c : Code} {Q : Exit → Act → World → Prop} {a : Act} {w : World} (h : c.wp P (Exit.then (fun a w => Q .normal a w) (fun _ _ _ => False)) a w) : c.wp P Q a w := Code.wp_mono (fun e a w h => by cases e <;> first | exact h | exact h.elim) h
theorem rq_set (l : List Req) (j : Nat) (x : Req) (hj : j < l.length) : (((l.flatMap rq).set (j * 3) (.int .i64 x.k)).set (j * 3 + 1) (.int .i64 x.n)).set (j * 3 + 2) (.string x.s) = (l.set j x).flatMap rq := by
  induction l generalizing j with
  | nil => simp at hj
  | cons c r ih =>
    rw [List.flatMap_cons]
    cases j with
    | zero => simp [rq]
    | succ j =>
      have h1 := ih j (by simpa using hj)
      rw [List.set_cons_succ, List.flatMap_cons, ← h1]
      have e : ∀ (m : List Value) (i : Nat) (u : Value), (rq c ++ m).set ((j + 1) * 3 + i) u = rq c ++ m.set (j * 3 + i) u := fun m i u => by
        have hl : (rq c).length = 3 := rfl
        rw [List.set_append_right _ _ (by rw [hl]; omega), hl, show (j + 1) * 3 + i - 3 = j * 3 + i by omega]
      have e0 := fun m u => e m 0 u
      simp only [Nat.add_zero] at e0
      rw [e0, e, e]
theorem RqO.set {e : TypeId} {w : World} {B g n cap : Nat} {L : List Req} (h : RqO e w B (.slice (some ⟨g, 0, none⟩) n cap) L) (j : Nat) (hj : j < L.length) (x : Req) : RqO e (((w.setCell ⟨g, j * 3, none⟩ (.int .i64 x.k)).setCell ⟨g, j * 3 + 1, none⟩ (.int .i64 x.n)).setCell ⟨g, j * 3 + 2, none⟩ (.string x.s)) B (.slice (some ⟨g, 0, none⟩) n cap) (L.set j x) := by
  obtain ⟨h1, h2⟩ := h
  rcases h2 with ⟨h2, _⟩ | ⟨g', cap', cur, hv, h3, h4, h5, h6, h7, h8⟩
  · cases h2
  · cases hv
    refine ⟨by rw [rq_len], .inr ⟨g, cap, ((cur.setIfInBounds (j * 3) (.int .i64 x.k)).setIfInBounds (j * 3 + 1) (.int .i64 x.n)).setIfInBounds (j * 3 + 2) (.string x.s), by rw [List.length_set], h3, sblk_set (i := j * 3 + 2) _ (sblk_set (i := j * 3 + 1) _ (sblk_set (i := j * 3) _ h4)), by rw [List.length_set]; exact h5, h6, by simpa using h7, ?_⟩⟩
    rw [← rq_set L j x hj, ← h8, List.length_set]
    simp only [Array.toList_setIfInBounds, List.take_set]
theorem RqO.soft {e : TypeId} {w : World} {B g n cap : Nat} {L : List Req} (h : RqO e w B (.slice (some ⟨g, 0, none⟩) n cap) L) (i : Nat) : w.frozen? ⟨g, i, none⟩ = false := by
  rcases h.2 with ⟨h2, _⟩ | ⟨g', cap', cur, hv, h3, h4, _⟩
  · cases h2
  · cases hv
    simp [World.frozen?, h4]
theorem sset3g_fr (W : World) (g i : Nat) (a b c : Value) : Fr W (((W.setCell ⟨g, i, none⟩ a).setCell ⟨g, i + 1, none⟩ b).setCell ⟨g, i + 2, none⟩ c) (fun k => k = g) := ((Fr.setCell (S := fun k => k = g) W ⟨g, i, none⟩ a rfl).trans (Fr.setCell (S := fun k => k = g) _ ⟨g, i + 1, none⟩ b rfl) (fun _ _ h => h)).trans (Fr.setCell (S := fun k => k = g) _ ⟨g, i + 2, none⟩ c rfl) (fun _ _ h => h)
set_option maxRecDepth 100000 in
set_option maxHeartbeats 2000000 in
theorem skeep {w : World} {B p : Nat} {v : Value} {L : List Req} (h : TA w B p v L) (hl : L.length ≤ 1000000) (hr : RiseQ L) {a : Req} (ha : a.n ≠ 0) : Calls Tryz.prog 172 #[.pointer (some ⟨p, 0, none⟩), .agg #[.int .i64 a.k, .int .i64 a.n, .string a.s]] w fun r w' => r = .returned (.tuple #[]) ∧ TTo w w' B p v (putR L a) := by
  have HT : Hid (TA w B p v L) := h
  have HR : Hid (RiseQ L) := hr
  have hn0 : ¬ a.n = 0 := ha
  clear h hr ha
  go_enter Tryz.func172, Tryz.ntmps172
  go_upto_region 1 with (fail)
  generalize hW : World.alloc _ _ = W
  have hB : Below w.heap.size w W := by rw [← hW]; exact sone_new w _
  have hZ : W.heap[w.heap.size]? = some (.cells #[.int .i64 a.k, .int .i64 a.n, .string a.s] 230 (0, 0)) := by rw [← hW]; exact heap_alloc_new w _
  clear hW
  have HQ : Hid (∀ k, v.ownBlock = some k → k < w.heap.size) := fun k hk => (HT.out.row.lt k hk).2
  have HPq : Hid (p < w.heap.size) := HT.out.lt
  obtain ⟨q, hq⟩ : ∃ q, w.heap.size = q := ⟨_, rfl⟩
  have HT1 : Hid (TA W B p v L) := HT.out.new hB
  have HB : Hid (Below w.heap.size w W) := hB
  have HE : Hid (w.heap.size = q) := hq
  rw [hq] at hZ ⊢
  have HZ : Hid (W.heap[q]? = some (.cells #[.int .i64 a.k, .int .i64 a.n, .string a.s] 230 (0, 0))) := hZ
  obtain ⟨u0, u1, u2, _, _, _⟩ := sbox3 hZ
  clear hB hZ hq HT
  have hF := sfind a.k HT1.out hl HR.out
  have HP : Hid (posR L a.k ≤ L.length) := posR_le L a.k
  by_cases hi : isR L a.k = true
  · have hlt : posR L a.k < L.length := by
      unfold isR at hi
      cases e : L[posR L a.k]? with
      | none => rw [e] at hi; simp at hi
      | some y => exact (List.getElem?_eq_some_iff.1 e).1
    have HPut : Hid (putR L a = L.set (posR L a.k) a) := by
      show _ = _
      unfold putR
      rw [if_pos hi]
    rw [hi] at hF
    generalize posR L a.k = j at hlt HPut hF HP
    clear hi
    go_upto_region 3 with (go_at_call 184; refine hF.mono ?_; rintro r w1 ⟨rfl, hb1⟩)
    have HT2 : Hid (TA w1 B p v L) := HT1.out.new hb1
    have HZ2 : Hid (w1.heap[q]? = some (.cells #[.int .i64 a.k, .int .i64 a.n, .string a.s] 230 (0, 0))) := (hb1.block q (slt_blk HZ.out)).trans HZ.out
    have HB2 : Hid (Below w.heap.size w w1) := HB.out.trans (hb1.mono HB.out.size)
    obtain ⟨z0, z1, z2, _, _, _⟩ := sbox3 HZ2.out
    clear hF hb1 u0 u1 u2
    go_upto_region 6 with (fail)
    obtain ⟨ao, c, rfl, hcap, hg⟩ := HT2.out.row.shape
    obtain ⟨g, rfl⟩ := hg (by omega)
    obtain ⟨Wd, hWd⟩ : ∃ Wd, w1.drew = Wd := ⟨_, rfl⟩
    have bd : Below w1.heap.size w1 Wd := by rw [← hWd]; exact Below.drew (Below.refl _ _)
    have HT3 : Hid (TA Wd B p (.slice (some ⟨g, 0, none⟩) L.length c) L) := HT2.out.new bd
    have c0 := HT3.out.c0
    have HZ3 : Wd.heap[q]? = some (.cells #[.int .i64 a.k, .int .i64 a.n, .string a.s] 230 (0, 0)) := (bd.block q (slt_blk HZ2.out)).trans HZ2.out
    obtain ⟨y0, y1, y2, _, _, _⟩ := sbox3 HZ3
    obtain ⟨e0, e1, e2⟩ := HT3.out.row.at_ j hlt
    have s0 := HT3.out.row.soft (j * 3)
    have s1 := HT3.out.row.soft (j * 3 + 1)
    have s2 := HT3.out.row.soft (j * 3 + 2)
    generalize L[j] = old at e0 e1 e2
    have hcL : (j : Int) < L.length := by omega
    refine wp_calmS ?_
    refine wp_region_L [7] (fun w' : World => w'.cell? ⟨p, 0, none⟩ = some (.slice (some ⟨g, 0, none⟩) L.length c) ∧ w'.cell? ⟨q, 0, none⟩ = some (.int .i64 a.k) ∧ w'.cell? ⟨q, 1, none⟩ = some (.int .i64 a.n) ∧ w'.cell? ⟨q, 2, none⟩ = some (.string a.s)) (by kernel_rfl) ?_
    rw [hWd]
    have hS : (fun w' : World => w'.cell? ⟨p, 0, none⟩ = some (.slice (some ⟨g, 0, none⟩) L.length c) ∧ w'.cell? ⟨q, 0, none⟩ = some (.int .i64 a.k) ∧ w'.cell? ⟨q, 1, none⟩ = some (.int .i64 a.n) ∧ w'.cell? ⟨q, 2, none⟩ = some (.string a.s)) Wd := ⟨c0, y0, y1, y2⟩
    refine wpAnyL_take (i := 0) 44 (v := .pointer (some ⟨p, 0, none⟩)) rfl rfl (by kernel_rfl) (by kernel_rfl) (by kernel_rfl) (by kernel_rfl) (by kernel_rfl) (by kernel_rfl) (fun _ _ _ h => h) hS (by rfl) (by intro w' hSw; obtain ⟨y0, y1, y2, y3⟩ := hSw; go_simp <;> with_reducible rfl) ?_
    simp only [Act.put, List.setIfInBounds_toArray, List.set_cons_zero, List.set_cons_succ]
    refine wpAnyL_take (i := 1) 45 (v := .pointer (some ⟨p, 0, none⟩)) rfl rfl (by kernel_rfl) (by kernel_rfl) (by kernel_rfl) (by kernel_rfl) (by kernel_rfl) (by kernel_rfl) (fun _ _ _ h => h) hS (by rfl) (by intro w' hSw; obtain ⟨y0, y1, y2, y3⟩ := hSw; go_simp <;> with_reducible rfl) ?_
    simp only [Act.put, List.setIfInBounds_toArray, List.set_cons_zero, List.set_cons_succ]
    refine wpAnyL_take (i := 2) 46 (v := .pointer (some ⟨p, 0, none⟩)) rfl rfl (by kernel_rfl) (by kernel_rfl) (by kernel_rfl) (by kernel_rfl) (by kernel_rfl) (by kernel_rfl) (fun _ _ _ h => h) hS (by rfl) (by intro w' hSw; obtain ⟨y0, y1, y2, y3⟩ := hSw; go_simp <;> with_reducible rfl) ?_
    simp only [Act.put, List.setIfInBounds_toArray, List.set_cons_zero, List.set_cons_succ]
    refine wpAnyL_take (i := 3) 47 (v := .slice (some ⟨g, 0, none⟩) L.length c) rfl rfl (by kernel_rfl) (by kernel_rfl) (by kernel_rfl) (by kernel_rfl) (by kernel_rfl) (by kernel_rfl) (fun _ _ _ h => h) hS (by rfl) (by intro w' hSw; obtain ⟨y0, y1, y2, y3⟩ := hSw; go_simp <;> with_reducible rfl) ?_
    simp only [Act.put, List.setIfInBounds_toArray, List.set_cons_zero, List.set_cons_succ]
    refine wpAnyL_take (i := 4) 48 (v := .int .i64 j) rfl rfl (by kernel_rfl) (by kernel_rfl) (by kernel_rfl) (by kernel_rfl) (by kernel_rfl) (by kernel_rfl) (fun _ _ _ h => h) hS (by rfl) (by intro w' hSw; obtain ⟨y0, y1, y2, y3⟩ := hSw; go_simp <;> with_reducible rfl) ?_
    simp only [Act.put, List.setIfInBounds_toArray, List.set_cons_zero, List.set_cons_succ]
    refine wpAnyL_take (i := 5) 49 (v := .agg #[.int .i64 a.k, .int .i64 a.n, .string a.s]) rfl rfl (by kernel_rfl) (by kernel_rfl) (by kernel_rfl) (by kernel_rfl) (by kernel_rfl) (by kernel_rfl) (fun _ _ _ h => h) hS (by rfl) (by intro w' hSw; obtain ⟨y0, y1, y2, y3⟩ := hSw; go_simp <;> with_reducible rfl) ?_
    simp only [Act.put, List.setIfInBounds_toArray, List.set_cons_zero, List.set_cons_succ]
    refine wpAnyL_take (i := 6) 50 (v := .pointer (some ⟨g, j * 3, none⟩)) rfl rfl (by kernel_rfl) (by kernel_rfl) (by kernel_rfl) (by kernel_rfl) (by kernel_rfl) (by kernel_rfl) (fun _ _ _ h => h) hS (by rfl) (by intro w' hSw; obtain ⟨y0, y1, y2, y3⟩ := hSw; go_simp <;> with_reducible rfl) ?_
    simp only [Act.put, List.setIfInBounds_toArray, List.set_cons_zero, List.set_cons_succ]
    refine wpAnyL_one (i := 7) (by kernel_rfl) rfl (fun Ka hKa => ?_)
    go_simp
    refine hKa.out _ _ (fun h => absurd h (Bool.eq_false_iff.1 (by kernel_rfl))) ?_
    clear hKa Ka
    refine wpAnyL_done (by kernel_rfl) ?_ _
    go_wp2
    go_end0
    refine ⟨rfl, ?_⟩
    rw [HPut.out]
    have f3 := sset3g_fr Wd g (j * 3) (.int .i64 a.k) (.int .i64 a.n) (.string a.s)
    have hne := HT3.out.ne
    have f1 : Fr w Wd (fun k => k = p ∨ (Value.slice (some ⟨g, 0, none⟩) L.length c).ownBlock = some k) := Fr.ofBelow (HB2.out.trans (bd.mono HB2.out.size)) _
    refine ⟨_, ⟨(f3.block p HT3.out.lt (fun e => hne (by rw [e]; rfl))).trans HT3.out.box, HT3.out.low, HT3.out.row.set j hlt a⟩, f1.trans f3 (fun k _ e => .inr (by rw [e]; rfl)), Row.refl _ _⟩
  · have hif : isR L a.k = false := by simpa using hi
    have HPut : Hid (putR L a = L.take (posR L a.k) ++ a :: L.drop (posR L a.k)) := by
      show _ = _
      unfold putR
      rw [if_neg hi]
    rw [hif] at hF
    generalize posR L a.k = j at HPut hF HP
    clear hi hif
    go_upto_region 3 with (go_at_call 184; refine hF.mono ?_; rintro r w1 ⟨rfl, hb1⟩)
    have HT2 : Hid (TA w1 B p v L) := HT1.out.new hb1
    have HZ2 : Hid (w1.heap[q]? = some (.cells #[.int .i64 a.k, .int .i64 a.n, .string a.s] 230 (0, 0))) := (hb1.block q (slt_blk HZ.out)).trans HZ.out
    have HB2 : Hid (Below w.heap.size w w1) := HB.out.trans (hb1.mono HB.out.size)
    obtain ⟨z0, z1, z2, _, _, _⟩ := sbox3 HZ2.out
    clear hF hb1 u0 u1 u2
    go_upto_region 2 with (fail)
    obtain ⟨ao, c, rfl, hcap, hg⟩ := HT2.out.row.shape
    obtain ⟨Wd, hWd⟩ : ∃ Wd, w1.drew = Wd := ⟨_, rfl⟩
    have bd : Below w1.heap.size w1 Wd := by rw [← hWd]; exact Below.drew (Below.refl _ _)
    have HT3 : Hid (TA Wd B p (.slice ao L.length c) L) := HT2.out.new bd
    have c0 := HT3.out.c0
    have HZ3 : Wd.heap[q]? = some (.cells #[.int .i64 a.k, .int .i64 a.n, .string a.s] 230 (0, 0)) := (bd.block q (slt_blk HZ2.out)).trans HZ2.out
    obtain ⟨y0, y1, y2, _, _, _⟩ := sbox3 HZ3
    refine wp_calmS ?_
    refine wp_region_L [11] (fun w' : World => w'.cell? ⟨p, 0, none⟩ = some (.slice ao L.length c) ∧ w'.cell? ⟨q, 0, none⟩ = some (.int .i64 a.k) ∧ w'.cell? ⟨q, 1, none⟩ = some (.int .i64 a.n) ∧ w'.cell? ⟨q, 2, none⟩ = some (.string a.s)) (by kernel_rfl) ?_
    rw [hWd]
    have hS : (fun w' : World => w'.cell? ⟨p, 0, none⟩ = some (.slice ao L.length c) ∧ w'.cell? ⟨q, 0, none⟩ = some (.int .i64 a.k) ∧ w'.cell? ⟨q, 1, none⟩ = some (.int .i64 a.n) ∧ w'.cell? ⟨q, 2, none⟩ = some (.string a.s)) Wd := ⟨c0, y0, y1, y2⟩
    refine wpAnyL_take (i := 0) 13 (v := .pointer (some ⟨p, 0, none⟩)) rfl rfl (by kernel_rfl) (by kernel_rfl) (by kernel_rfl) (by kernel_rfl) (by kernel_rfl) (by kernel_rfl) (fun _ _ _ h => h) hS (by rfl) (by intro w' hSw; obtain ⟨y0, y1, y2, y3⟩ := hSw; go_simp <;> with_reducible rfl) ?_
    simp only [Act.put, List.setIfInBounds_toArray, List.set_cons_zero, List.set_cons_succ]
    refine wpAnyL_take (i := 1) 14 (v := .pointer (some ⟨p, 0, none⟩)) rfl rfl (by kernel_rfl) (by kernel_rfl) (by kernel_rfl) (by kernel_rfl) (by kernel_rfl) (by kernel_rfl) (fun _ _ _ h => h) hS (by rfl) (by intro w' hSw; obtain ⟨y0, y1, y2, y3⟩ := hSw; go_simp <;> with_reducible rfl) ?_
    simp only [Act.put, List.setIfInBounds_toArray, List.set_cons_zero, List.set_cons_succ]
    refine wpAnyL_take (i := 2) 15 (v := .pointer (some ⟨p, 0, none⟩)) rfl rfl (by kernel_rfl) (by kernel_rfl) (by kernel_rfl) (by kernel_rfl) (by kernel_rfl) (by kernel_rfl) (fun _ _ _ h => h) hS (by rfl) (by intro w' hSw; obtain ⟨y0, y1, y2, y3⟩ := hSw; go_simp <;> with_reducible rfl) ?_
    simp only [Act.put, List.setIfInBounds_toArray, List.set_cons_zero, List.set_cons_succ]
    refine wpAnyL_take (i := 3) 16 (v := .pointer (some ⟨p, 0, none⟩)) rfl rfl (by kernel_rfl) (by kernel_rfl) (by kernel_rfl) (by kernel_rfl) (by kernel_rfl) (by kernel_rfl) (fun _ _ _ h => h) hS (by rfl) (by intro w' hSw; obtain ⟨y0, y1, y2, y3⟩ := hSw; go_simp <;> with_reducible rfl) ?_
    simp only [Act.put, List.setIfInBounds_toArray, List.set_cons_zero, List.set_cons_succ]
    refine wpAnyL_take (i := 4) 17 (v := .slice ao L.length c) rfl rfl (by kernel_rfl) (by kernel_rfl) (by kernel_rfl) (by kernel_rfl) (by kernel_rfl) (by kernel_rfl) (fun _ _ _ h => h) hS (by rfl) (by intro w' hSw; obtain ⟨y0, y1, y2, y3⟩ := hSw; go_simp <;> with_reducible rfl) ?_
    simp only [Act.put, List.setIfInBounds_toArray, List.set_cons_zero, List.set_cons_succ]
    refine wpAnyL_take (i := 5) 18 (v := .int .i64 j) rfl rfl (by kernel_rfl) (by kernel_rfl) (by kernel_rfl) (by kernel_rfl) (by kernel_rfl) (by kernel_rfl) (fun _ _ _ h => h) hS (by rfl) (by intro w' hSw; obtain ⟨y0, y1, y2, y3⟩ := hSw; go_simp <;> with_reducible rfl) ?_
    simp only [Act.put, List.setIfInBounds_toArray, List.set_cons_zero, List.set_cons_succ]
    refine wpAnyL_take (i := 6) 19 (v := .agg #[.int .i64 a.k, .int .i64 a.n, .string a.s]) rfl rfl (by kernel_rfl) (by kernel_rfl) (by kernel_rfl) (by kernel_rfl) (by kernel_rfl) (by kernel_rfl) (fun _ _ _ h => h) hS (by rfl) (by intro w' hSw; obtain ⟨y0, y1, y2, y3⟩ := hSw; go_simp <;> with_reducible rfl) ?_
    simp only [Act.put, List.setIfInBounds_toArray, List.set_cons_zero, List.set_cons_succ]
    refine wpAnyL_one (i := 7) (by kernel_rfl) rfl (fun Ka hKa => ?_)
    go_simp
    generalize hX : World.alloc _ _ = X
    have bx : Below Wd.heap.size Wd X := by rw [← hX]; exact sone_new _ _
    have hXn : X.heap[Wd.heap.size]? = some (.cells #[.int .i64 a.k, .int .i64 a.n, .string a.s] 230 (0, 0)) := by rw [← hX]; exact heap_alloc_new _ _
    have HT4 : Hid (TA X B p (.slice ao L.length c) L) := HT3.out.new bx
    have hS4 : (fun w' : World => w'.cell? ⟨p, 0, none⟩ = some (.slice ao L.length c) ∧ w'.cell? ⟨q, 0, none⟩ = some (.int .i64 a.k) ∧ w'.cell? ⟨q, 1, none⟩ = some (.int .i64 a.n) ∧ w'.cell? ⟨q, 2, none⟩ = some (.string a.s)) X := ⟨HT4.out.c0, (bx.cell (p := ⟨q, 0, none⟩) (slt_cell y0)).trans y0, (bx.cell (p := ⟨q, 1, none⟩) (slt_cell y1)).trans y1, (bx.cell (p := ⟨q, 2, none⟩) (slt_cell y2)).trans y2⟩
    refine hKa.out _ _ (fun _ => hS4) ?_
    clear hKa Ka
    try simp only [Act.put, List.setIfInBounds_toArray, List.set_cons_zero, List.set_cons_succ]
    have hI := insert_any (vb := Wd.heap.size) HT4.out.row j HP.out HT4.out.base hl hXn (fun e => by have := (HT3.out.row.lt _ e).2; omega)
    have HXl : Hid (Below w.heap.size w X) := HB2.out.trans ((bd.mono HB2.out.size).trans (bx.mono (by have := HB2.out.size; have := bd.size; omega)))
    generalize hvb : Wd.heap.size = vb at hI ⊢
    clear hX bx hXn hvb
    refine wpAnyL_one (i := 8) (by kernel_rfl) rfl (fun Ka hKa => ?_)
    go_simp
    refine Calls.mono hI ?_
    rintro r X2 ⟨v2, rfl, hrow, hf2, hrw⟩
    generalize L.take j ++ a :: L.drop j = M at hrow HPut
    have hpo : ¬ (Value.slice ao L.length c).ownBlock = some p := HT4.out.ne
    have hqo : ¬ (Value.slice ao L.length c).ownBlock = some q := fun e => by have h1 := HQ.out q e; have h2 := HE.out; omega
    have c4 : X2.cell? ⟨p, 0, none⟩ = some (.slice ao L.length c) := sfr_cell hf2 hpo HT4.out.c0
    have hS5 : (fun w' : World => w'.cell? ⟨p, 0, none⟩ = some (.slice ao L.length c) ∧ w'.cell? ⟨q, 0, none⟩ = some (.int .i64 a.k) ∧ w'.cell? ⟨q, 1, none⟩ = some (.int .i64 a.n) ∧ w'.cell? ⟨q, 2, none⟩ = some (.string a.s)) X2 := ⟨c4, sfr_cell hf2 hqo hS4.2.1, sfr_cell hf2 hqo hS4.2.2.1, sfr_cell hf2 hqo hS4.2.2.2⟩
    have hfz : X2.frozen? ⟨p, 0, none⟩ = false := by
      have := (hf2.block p HT4.out.lt hpo).trans HT4.out.box
      simp [World.frozen?, this]
    obtain ⟨ao2, c2, rfl, _, _⟩ := hrow.shape
    refine hKa.out _ _ (fun _ => hS5) ?_
    clear hKa Ka
    try simp only [Act.put, List.setIfInBounds_toArray, List.set_cons_zero, List.set_cons_succ]
    refine wpAnyL_take (i := 9) 22 (v := .pointer (some ⟨p, 0, none⟩)) rfl rfl (by kernel_rfl) (by kernel_rfl) (by kernel_rfl) (by kernel_rfl) (by kernel_rfl) (by kernel_rfl) (fun _ _ _ h => h) hS5 (by rfl) (by intro w' hSw; obtain ⟨y0, y1, y2, y3⟩ := hSw; go_simp <;> with_reducible rfl) ?_
    simp only [Act.put, List.setIfInBounds_toArray, List.set_cons_zero, List.set_cons_succ]
    refine wpAnyL_take (i := 10) 23 (v := .pointer (some ⟨p, 0, none⟩)) rfl rfl (by kernel_rfl) (by kernel_rfl) (by kernel_rfl) (by kernel_rfl) (by kernel_rfl) (by kernel_rfl) (fun _ _ _ h => h) hS5 (by rfl) (by intro w' hSw; obtain ⟨y0, y1, y2, y3⟩ := hSw; go_simp <;> with_reducible rfl) ?_
    simp only [Act.put, List.setIfInBounds_toArray, List.set_cons_zero, List.set_cons_succ]
    refine wpAnyL_one (i := 11) (by kernel_rfl) rfl (fun Ka hKa => ?_)
    go_simp
    refine hKa.out _ _ (fun h => absurd h (Bool.eq_false_iff.1 (by kernel_rfl))) ?_
    clear hKa Ka
    refine wpAnyL_done (by kernel_rfl) ?_ _
    go_wp2
    go_end0
    refine ⟨rfl, ?_⟩
    rw [HPut.out]
    have hbx : X2.heap[p]? = some (.cells #[.slice ao L.length c] 234 (0, 0)) := (hf2.block p HT4.out.lt hpo).trans HT4.out.box
    have f4 : Fr w X2 (fun k => k = p ∨ (Value.slice ao L.length c).ownBlock = some k) := (Fr.ofBelow HXl.out _).trans hf2 (fun k _ e => .inr e)
    have f5 := Fr.setCell (S := fun k => k = p) X2 ⟨p, 0, none⟩ (.slice ao2 M.length c2) rfl
    have hrp : ∀ k, (Value.slice ao2 M.length c2).ownBlock = some k → ¬ k = p := fun k hk e => by
      subst e
      obtain ⟨_, cc, ff, ht⟩ := srow_tag hrow hk
      rw [hbx] at ht
      simp at ht
    refine ⟨_, ⟨sblk_set (i := 0) _ hbx, HT4.out.low, hrow.kept f5 hrp⟩, f4.trans f5 (fun k _ e => .inl e), ?_⟩
    rcases hrw with hrw | ⟨gg, hrw, hgg⟩
    · exact .inl hrw
    · exact .inr ⟨gg, hrw, Nat.le_trans HXl.out.size hgg⟩
end Go.Proofs.YtidghoipmggklaaGreat
end

section
/- Look. -/
namespace Go.Proofs.YtidghoipmggklaaGreat
open Go.RowKit
attribute [local go_sem] Oper.semAt_some
set_option maxRecDepth 100000 in
set_option maxHeartbeats 2000000 in
theorem slook {w : World} {B p : Nat} {v : Value} {L : List Req} (h : TA w B p v L) (hl : L.length ≤ 1000000) (hr : RiseQ L) (k n : Int) (hn : n ≤ 9223372036854775807) : Calls Tryz.prog 77 #[.pointer (some ⟨p, 0, none⟩), .int .i64 k, .int .i64 n] w fun r w' => r = .returned (.tuple #[.string (lookR L k n).1, .bool (lookR L k n).2.1, .int .i64 (lookR L k n).2.2]) ∧ Below w.heap.size w w' := by
  have HT : Hid (TA w B p v L) := h
  have HR : Hid (RiseQ L) := hr
  clear h hr
  by_cases h1 : n < 1
  · have e : lookR L k n = (str [], false, 1) := by unfold lookR; rw [if_pos h1]
    rw [e]
    clear e
    go_enter Tryz.func77, Tryz.ntmps77
    go_wp2
    go_ret3
    exact ⟨rfl, Below.refl _ _⟩
  · have hF := slast k HT.out hl HR.out
    obtain ⟨t, ht⟩ : ∃ t, lookR L k n = t := ⟨_, rfl⟩
    have HE : Hid (lookR L k n = t) := ht
    rw [ht]
    clear ht
    have h1' : 1 ≤ n := by omega
    go_enter Tryz.func77, Tryz.ntmps77
    go_upto_region 4 with (go_at_call 137; refine hF.mono ?_; rintro r w1 ⟨rfl, hb1⟩)
    generalize hW : World.alloc _ _ = W
    have hB : Below w1.heap.size w1 W := by rw [← hW]; exact sone_new _ _
    have hZ : W.heap[w1.heap.size]? = some (.cells #[.int .i64 (lastR L k).k, .int .i64 (lastR L k).n, .string (lastR L k).s] 230 (0, 0)) := by rw [← hW]; exact heap_alloc_new _ _
    have HB : Hid (Below w.heap.size w W) := hb1.trans (hB.mono hb1.size)
    have HT1 : Hid (TA W B p v L) := HT.out.new HB.out
    clear hW hF hb1 hB
    generalize w1.heap.size = q at hZ ⊢
    obtain ⟨z0, z1, z2, _, _, _⟩ := sbox3 hZ
    have c0 := HT1.out.c0
    obtain ⟨ao, c, rfl, _, _⟩ := HT1.out.row.shape
    have HV : Hid (lookR L k n = if n = (lastR L k).n then ((lastR L k).s, true, 0) else if n < (lastR L k).n then (str [], false, 150) else if (lastR L k).n < n - 1 then (str [], false, 151) else if (lastR L k).n = 0 ∧ 64 ≤ L.length then (str [], false, 3) else (str [], false, 0)) := by
      show _ = _
      conv => lhs; unfold lookR
      rw [if_neg (by omega)]
    generalize lastR L k = y at z0 z1 z2 HV
    clear hZ
    by_cases h2 : n = y.n
    · have HF : Hid (t = (y.s, true, 0)) := by show _ = _; rw [← HE.out, HV.out, if_pos h2]
      clear HV
      have h2' : (n == y.n) = true := by simpa using h2
      go_wp2
      go_ret3
      exact ⟨by rw [HF.out]; first | done | rfl, HB.out⟩
    · by_cases h3 : n < y.n
      · have HF : Hid (t = (str [], false, 150)) := by show _ = _; rw [← HE.out, HV.out, if_neg h2, if_pos h3]
        clear HV
        go_wp2
        go_ret3
        exact ⟨by rw [HF.out]; first | done | rfl, HB.out⟩
      · by_cases h4 : y.n < n - 1
        · have HF : Hid (t = (str [], false, 151)) := by show _ = _; rw [← HE.out, HV.out, if_neg h2, if_neg h3, if_pos h4]
          clear HV
          go_wp2
          go_ret3
          exact ⟨by rw [HF.out]; first | done | rfl, HB.out⟩
        · by_cases h5 : y.n = 0
          · by_cases h6 : 64 ≤ L.length
            · have HF : Hid (t = (str [], false, 3)) := by show _ = _; rw [← HE.out, HV.out, if_neg h2, if_neg h3, if_neg h4, if_pos ⟨h5, h6⟩]
              clear HV
              have h6' : (64 : Int) ≤ L.length := by omega
              go_wp2
              go_ret3
              exact ⟨by rw [HF.out]; first | done | rfl, HB.out⟩
            · have HF : Hid (t = (str [], false, 0)) := by show _ = _; rw [← HE.out, HV.out, if_neg h2, if_neg h3, if_neg h4, if_neg (fun h => h6 h.2)]
              clear HV
              have h6' : (L.length : Int) < 64 := by omega
              go_wp2
              go_ret3
              exact ⟨by rw [HF.out]; first | done | rfl, HB.out⟩
          · have HF : Hid (t = (str [], false, 0)) := by show _ = _; rw [← HE.out, HV.out, if_neg h2, if_neg h3, if_neg h4, if_neg (fun h => h5 h.1)]
            clear HV
            go_wp2
            go_ret3
            exact ⟨by rw [HF.out]; first | done | rfl, HB.out⟩
end Go.Proofs.YtidghoipmggklaaGreat
end

section
/- tell: what a function that is handed in tells. -/
namespace Go.Proofs.YtidghoipmggklaaGreat
open Go.RowKit
attribute [local go_sem] Oper.semAt_some
theorem catch_idle (w : World) : CallsD Tryz.prog 213 #[] .returning w fun e u' w' => e = .returned (.tuple #[]) ∧ u' = .returning ∧ w' = w := by
  refine callsD_of_wpS Tryz.func213 rfl fun c₀ cs hu => ?_
  apply wpS_region
  simp [wpOpsS, go_sem, recoverD, hu, Tryz.ntmps213, bodyPostS, results, Tryz.results213]
  cases c₀
  simp_all
end Go.Proofs.YtidghoipmggklaaGreat
end

section
/- Do, of a function that changes something besides. -/
namespace Go.Proofs.YtidghoipmggklaaGreat
open Go.RowKit
attribute [local go_sem] Oper.semAt_some
/-- A function that is handed in, changes something, and tells a text. -/
structure TellsW (g : Nat) (cb : Array Value) (s : ByteArray) (w : World) (Q : World → Prop) : Prop where
  eg : ∀ args w, (callFunc g args).run Tryz.prog w = .ok (.enter g args) w
  run : Calls Tryz.prog g cb w fun r w' => r = .returned (.string s) ∧ Q w'
set_option maxRecDepth 100000 in
theorem stellW {g : Nat} {cb : Array Value} {s : ByteArray} {w : World} {Q : World → Prop} (h : TellsW g cb s w Q) : Calls Tryz.prog 173 #[.func (.func g) #[] cb] w fun r w' => r = .returned (.tuple #[.string s, .bool true]) ∧ Q w' := by
  have eg := h.eg
  have hr := h.run
  go_enter_defers Tryz.func173, Tryz.ntmps173
  go_wp2_with (go_at_fn g; refine hr.mono ?_; rintro e w1 ⟨rfl, hb⟩)
  refine leaves_cons (f := 213) (args := #[]) (by simp) (by simp [go_sem]) ?_
  refine (catch_idle _).mono ?_
  rintro e u' w'' ⟨rfl, rfl, rfl⟩
  simp [Leaves, settle, results, Tryz.results173, go_sem]
  exact hb
set_option maxRecDepth 100000 in
set_option maxHeartbeats 4000000 in
/-- A request that is done, by a function that changes something. -/
theorem sdo_freshW {w : World} {B p : Nat} {v : Value} {L : List Req} (h : TA w B p v L) (hT : Tab L) {k n : Int} (hn : n ≤ 9223372036854775807) (hf : freshR L k n) {g : Nat} {cb : Array Value} {s : ByteArray} {S : Nat → Prop} (hS : ∀ k, S k → k < w.heap.size ∧ k ≠ p ∧ v.ownBlock ≠ some k) {Q : World → World → Prop} (hD : ∀ W, Fr w W (fun k => k = p ∨ v.ownBlock = some k) → TellsW g cb s W (fun W' => Fr W W' S ∧ Q W W')) :
    Calls Tryz.prog 126 #[.pointer (some ⟨p, 0, none⟩), .int .i64 k, .int .i64 n, .func (.func g) #[] cb] w fun r w' => r = .returned (.tuple #[.string s, .bool true, .int .i64 0]) ∧ ∃ (w4 w5 : World) (v4 v' : Value), Fr w w4 (fun k => k = p ∨ v.ownBlock = some k) ∧ Fr w4 w5 S ∧ Q w4 w5 ∧ Fr w5 w' (fun k => k = p ∨ v4.ownBlock = some k) ∧ (∀ k, v4.ownBlock = some k → v.ownBlock = some k ∨ (w.heap.size ≤ k ∧ k < w4.heap.size)) ∧ TA w' B p v' (putR L ⟨k, n, s⟩) := by
  have hL := slook h (by have := hT.few; omega) hT.rise k n hn
  have HT : Hid (TA w B p v L) := h
  have HTab : Hid (Tab L) := hT
  have HF : Hid (freshR L k n) := hf
  have HD : Hid (∀ W, Fr w W (fun k => k = p ∨ v.ownBlock = some k) → TellsW g cb s W (fun W' => Fr W W' S ∧ Q W W')) := hD
  have HS : Hid (∀ k, S k → k < w.heap.size ∧ k ≠ p ∧ v.ownBlock ≠ some k) := hS
  have HN : Hid (n ≠ 0) := by show n ≠ 0; rcases fresh_is hf with h | h <;> omega
  have hnil : ∀ W : World, (binOp BinOp.eql 44 (.func (.func g) #[] cb) .nilFunc).run Tryz.prog W = .ok (.bool false) W := fun _ => rfl
  unfold freshR at hf
  generalize lookR L k n = t at hL hf
  obtain ⟨t1, t2, t3⟩ := t
  clear h hT hD hS
  simp only at hL hf
  obtain ⟨rfl, rfl⟩ := hf
  go_enter Tryz.func126, Tryz.ntmps126
  go_upto_region 6 with (go_at_call 77; refine hL.mono ?_; rintro r w1 ⟨rfl, hb1⟩)
  have HT1 : Hid (TA w1 B p v L) := HT.out.new hb1
  have HB1 : Hid (Below w.heap.size w w1) := hb1
  have HLn : Hid (L.length ≤ 1000000) := by show _ ≤ _; have := HTab.out.few; omega
  clear hb1 hL
  have hF := slast k HT1.out HLn.out HTab.out.rise
  go_upto_region 7 with (go_at_call 137; refine hF.mono ?_; rintro r w2 ⟨rfl, hb2⟩)
  generalize hW3 : World.alloc _ _ = w3
  have hB3 : Below w2.heap.size w2 w3 := by rw [← hW3]; exact sone_new _ _
  have HB3 : Hid (Below w.heap.size w w3) := HB1.out.trans ((hb2.mono HB1.out.size).trans (hB3.mono (by have := HB1.out.size; have := hb2.size; omega)))
  have HT3 : Hid (TA w3 B p v L) := HT.out.new HB3.out
  clear hW3 hB3 hb2 hF hnil
  generalize w2.heap.size = q14
  have hK := skeep HT3.out HLn.out HTab.out.rise (a := ⟨k, n, str []⟩) HN.out
  go_upto_region 8 with (go_at_call 172; refine hK.mono ?_; rintro r w4 ⟨rfl, hk4⟩)
  obtain ⟨v4, hT4, hF4, hR4⟩ := hk4
  have HT4 : Hid (TA w4 B p v4 (putR L ⟨k, n, str []⟩)) := hT4
  have HF4 : Hid (Fr w w4 (fun k => k = p ∨ v.ownBlock = some k)) := (Fr.ofBelow HB3.out _).trans hF4 (fun _ _ h => h)
  have HR4 : Hid (Row w v v4) := by
    show Row _ _ _
    rcases hR4 with hR4 | ⟨gg, h1, h2⟩
    · exact .inl hR4
    · exact .inr ⟨gg, h1, Nat.le_trans HB3.out.size h2⟩
  have HTab4 : Hid (Tab (putR L ⟨k, n, str []⟩)) := HTab.out.put _ HF.out
  have HL4 : Hid (lastR (putR L ⟨k, n, str []⟩) k = ⟨k, n, str []⟩) := put_last HTab.out.rise ⟨k, n, str []⟩
  have HP4 : Hid (putR (putR L ⟨k, n, str []⟩) ⟨k, n, s⟩ = putR L ⟨k, n, s⟩) := put_put HTab.out.rise rfl
  have HX4 : Hid (∀ k, v4.ownBlock = some k → v.ownBlock = some k ∨ (w.heap.size ≤ k ∧ k < w4.heap.size)) := fun k hk => by
    rcases HR4.out with h1 | ⟨gg, h1, h2⟩
    · exact .inl (by rw [← h1]; exact hk)
    · rw [hk] at h1; cases h1; exact .inr ⟨h2, (HT4.out.row.lt k hk).2⟩
  have hTl := stellW (HD.out w4 HF4.out)
  clear hT4 hF4 hR4 hK
  go_upto_region 9 with (go_at_call 173; refine hTl.mono ?_; rintro r w5 ⟨rfl, hf5, hq5⟩)
  have HF5 : Hid (Fr w4 w5 S) := hf5
  have HQ5 : Hid (Q w4 w5) := hq5
  have HT5 : Hid (TA w5 B p v4 (putR L ⟨k, n, str []⟩)) := HT4.out.kept hf5 (fun h => (HS.out p h).2.1 rfl) (fun k hk h => by
    have h1 := HS.out k h
    rcases HX4.out k hk with h2 | h2
    · exact h1.2.2 h2
    · omega)
  clear hf5 hq5 hTl
  go_upto_region 10 with (fail)
  generalize hW6 : World.alloc _ _ = w6
  have hB6 : Below w5.heap.size w5 w6 := by rw [← hW6]; exact sone_new _ _
  have hZ6 : w6.heap[w5.heap.size]? = some (.cells #[.int .i64 k, .int .i64 n, .string s] 230 (0, 0)) := by rw [← hW6]; exact heap_alloc_new _ _
  have HB6 : Hid (Below w5.heap.size w5 w6) := hB6
  clear hW6 hB6
  generalize w5.heap.size = q16 at hZ6 ⊢
  have HZ6 : Hid (w6.heap[q16]? = some (.cells #[.int .i64 k, .int .i64 n, .string s] 230 (0, 0))) := hZ6
  have HT6 : Hid (TA w6 B p v4 (putR L ⟨k, n, str []⟩)) := HT5.out.new HB6.out
  clear hZ6
  have HLn4 : Hid ((putR L ⟨k, n, str []⟩).length ≤ 1000000) := by show _ ≤ _; have := HTab4.out.few; omega
  have hS := sseq k HT6.out HLn4.out HTab4.out.rise
  rw [HL4.out] at hS
  simp only at hS
  go_upto_region 13 with (go_at_call 174; refine hS.mono ?_; rintro r w7 ⟨rfl, hb7⟩)
  have HB7 : Hid (Below w5.heap.size w5 w7) := HB6.out.trans (hb7.mono HB6.out.size)
  have HT7 : Hid (TA w7 B p v4 (putR L ⟨k, n, str []⟩)) := HT5.out.new HB7.out
  have HZ7 : Hid (w7.heap[q16]? = some (.cells #[.int .i64 k, .int .i64 n, .string s] 230 (0, 0))) := (hb7.block q16 (slt_blk HZ6.out)).trans HZ6.out
  obtain ⟨z0, z1, z2, _, _, _⟩ := sbox3 HZ7.out
  clear hS hb7
  have hK2 := skeep HT7.out HLn4.out HTab4.out.rise (a := ⟨k, n, s⟩) HN.out
  rw [HP4.out] at hK2
  go_wp2_with (go_at_call 172; refine hK2.mono ?_; rintro r w8 ⟨rfl, hk8⟩)
  go_ret3
  obtain ⟨v8, hT8, hF8, _⟩ := hk8
  exact ⟨rfl, w4, w5, v4, v8, HF4.out, HF5.out, HQ5.out, (Fr.ofBelow HB7.out (fun k => k = p ∨ v4.ownBlock = some k)).trans hF8 (fun _ _ h => h), HX4.out, hT8⟩
end Go.Proofs.YtidghoipmggklaaGreat
end
