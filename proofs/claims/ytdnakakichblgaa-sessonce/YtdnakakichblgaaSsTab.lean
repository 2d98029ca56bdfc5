/- A table of sessions in memory: New, Len, find, last, Seq. -/
import Derived.Test.YtdnakakichblgaaSsIns
import Derived.Laws.ResultCell
import Derived.Laws.Tables
import Derived.Deep.QuietTactic
import Derived.BigQuiet
import Derived.BigRegion
import Derived.Deep.Cut
import Derived.Deep.DeepCutAuto
import Derived.Deep.CutBlock
namespace Go.Proofs.Ytdnakakichblgaa
open Go.RowKit
attribute [local go_sem] Oper.semAt_some
/-- A table at p: its box, its row. -/
structure TA (w : World) (B p : Nat) (v : Value) (L : List Req) : Prop where
  box : w.heap[p]? = some (.cells #[v] 58 (0, 0))
  low : B ≤ p
  row : RqO 60 w B v L
section
variable {w w' : World} {B p : Nat} {v : Value} {L : List Req}
theorem TA.lt (h : TA w B p v L) : p < w.heap.size := slt_blk h.box
theorem TA.c0 (h : TA w B p v L) : w.cell? ⟨p, 0, none⟩ = some v := by simp [World.cell?, h.box]
theorem TA.f0 (h : TA w B p v L) : w.frozen? ⟨p, 0, none⟩ = false := by simp [World.frozen?, h.box]
theorem TA.ne (h : TA w B p v L) : v.ownBlock ≠ some p := fun e => by
  obtain ⟨_, c, f, hk⟩ := srow_tag h.row e
  rw [h.box] at hk
  simp at hk
theorem TA.kept (h : TA w B p v L) {S : Nat → Prop} (f : Fr w w' S) (hp : ¬ S p) (hv : ∀ k, v.ownBlock = some k → ¬ S k) : TA w' B p v L := ⟨(f.block p h.lt hp).trans h.box, h.low, h.row.kept f hv⟩
theorem TA.new (h : TA w B p v L) (hb : Below w.heap.size w w') : TA w' B p v L := h.kept (Fr.ofBelow hb (fun _ => False)) (fun h => h) (fun _ _ h => h)
theorem TA.base (h : TA w B p v L) : B ≤ w.heap.size := by have := h.low; have := h.lt; omega
end
/-- What a call on a table leaves. -/
def TTo (w w' : World) (B p : Nat) (v : Value) (L : List Req) : Prop := ∃ v', TA w' B p v' L ∧ Fr w w' (fun k => k = p ∨ v.ownBlock = some k) ∧ Row w v v'
theorem TTo.same {w w' : World} {B p : Nat} {v : Value} {L : List Req} (h : TA w B p v L) (hb : Below w.heap.size w w') : TTo w w' B p v L := ⟨v, h.new hb, Fr.ofBelow hb _, Row.refl _ _⟩
theorem TTo.then {w w1 w2 : World} {B p : Nat} {v v1 : Value} {L : List Req} (f : Fr w w1 (fun k => k = p ∨ v.ownBlock = some k)) (hr : Row w v v1) (h : TTo w1 w2 B p v1 L) : TTo w w2 B p v L := by
  obtain ⟨v2, h2, f2, r2⟩ := h
  refine ⟨v2, h2, f.trans f2 (fun k hk e => ?_), hr.trans r2 f.size⟩
  rcases e with e | e
  · exact .inl e
  · rcases hr with hr | ⟨g, hr, hg⟩
    · exact .inr (hr ▸ e)
    · rw [hr] at e
      cases e
      omega
theorem size_ask : (Try.prog.info? 60).map (·.size) = some 3 := by kernel_rfl
theorem snew (w : World) (B : Nat) (hB : B ≤ w.heap.size) : Calls Try.prog 6 #[] w fun r w' => r = .returned (.pointer (some ⟨w.heap.size, 0, none⟩)) ∧ TA w' B w.heap.size (.slice none 0 0) [] ∧ Below w.heap.size w w' := by
  go_enter Try.func6, Try.ntmps6
  go_wp2
  go_ret
  exact ⟨rfl, ⟨heap_alloc_new _ _, hB, RqO.nil _ _ _⟩, sone_new _ _⟩
theorem slen_nil (w : World) : Calls Try.prog 13 #[.pointer none] w fun r w' => r = .returned (.int .i64 0) ∧ w' = w := by
  go_enter Try.func13, Try.ntmps13
  go_wp2
  go_ret
  exact ⟨rfl, rfl⟩
theorem slen {w : World} {B p : Nat} {v : Value} {L : List Req} (h : TA w B p v L) : Calls Try.prog 13 #[.pointer (some ⟨p, 0, none⟩)] w fun r w' => r = .returned (.int .i64 L.length) ∧ w' = w := by
  have c0 := h.c0
  obtain ⟨ao, c, rfl, _⟩ := h.row.shape
  clear h
  go_enter Try.func13, Try.ntmps13
  go_wp2
  go_ret
  exact ⟨rfl, rfl⟩
theorem sfind {w : World} {B p : Nat} {v : Value} {L : List Req} (x : Int) (h : TA w B p v L) (hl : L.length ≤ 1000000) (hr : RiseQ L) : Calls Try.prog 43 #[.pointer (some ⟨p, 0, none⟩), .int .i64 x] w fun r w' => r = .returned (.tuple #[.int .i64 (posR L x), .bool (isR L x)]) ∧ Below w.heap.size w w' := by
  have c0 := h.c0
  have HS : Hid (RqS w v L) := h.row.toS
  obtain ⟨ao, c, rfl, _⟩ := h.row.shape
  have hB := sbsearch x HS.out (by omega) hr
  clear h hr
  go_enter Try.func43, Try.ntmps43
  go_wp2_with (go_at_call 53; refine hB.mono ?_; rintro r w1 ⟨rfl, hb1⟩)
  go_ret2
  exact ⟨rfl, hb1⟩
theorem sblk_set {w : World} {g i : Nat} {cs : Array Value} {t : TypeId} (v : Value) (h : w.heap[g]? = some (.cells cs t (0, 0))) : (w.setCell ⟨g, i, none⟩ v).heap[g]? = some (.cells (cs.setIfInBounds i v) t (0, 0)) := by
  have hlt := slt_blk h
  have h' : w.heap[g] = .cells cs t (0, 0) := by simpa [Array.getElem?_eq_getElem hlt] using h
  show (w.heap.modify g _)[g]? = _
  rw [Array.getElem?_eq_getElem (by simpa using hlt), Array.getElem_modify_self, h']
  rfl
theorem sset3 {W : World} {q : Nat} {t : TypeId} {x0 x1 x2 : Value} (a b c : Value) (h : W.heap[q]? = some (.cells #[x0, x1, x2] t (0, 0))) : (((W.setCell ⟨q, 0, none⟩ a).setCell ⟨q, 1, none⟩ b).setCell ⟨q, 2, none⟩ c).heap[q]? = some (.cells #[a, b, c] t (0, 0)) := sblk_set (i := 2) c (sblk_set (i := 1) b (sblk_set (i := 0) a h))
theorem sset3_fr (W : World) (q : Nat) (a b c : Value) : Fr W (((W.setCell ⟨q, 0, none⟩ a).setCell ⟨q, 1, none⟩ b).setCell ⟨q, 2, none⟩ c) (fun k => k = q) := ((Fr.setCell (S := fun k => k = q) W ⟨q, 0, none⟩ a rfl).trans (Fr.setCell (S := fun k => k = q) _ ⟨q, 1, none⟩ b rfl) (fun _ _ h => h)).trans (Fr.setCell (S := fun k => k = q) _ ⟨q, 2, none⟩ c rfl) (fun _ _ h => h)
theorem sbox3 {W : World} {q : Nat} {t : TypeId} {x0 x1 x2 : Value} (h : W.heap[q]? = some (.cells #[x0, x1, x2] t (0, 0))) : W.cell? ⟨q, 0, none⟩ = some x0 ∧ W.cell? ⟨q, 1, none⟩ = some x1 ∧ W.cell? ⟨q, 2, none⟩ = some x2 ∧ W.frozen? ⟨q, 0, none⟩ = false ∧ W.frozen? ⟨q, 1, none⟩ = false ∧ W.frozen? ⟨q, 2, none⟩ = false := by
  refine ⟨?_, ?_, ?_, ?_, ?_, ?_⟩ <;> simp [World.cell?, World.frozen?, h]
set_option maxRecDepth 100000 in
set_option maxHeartbeats 1000000 in
theorem slast {w : World} {B p : Nat} {v : Value} {L : List Req} (x : Int) (h : TA w B p v L) (hl : L.length ≤ 1000000) (hr : RiseQ L) : Calls Try.prog 30 #[.pointer (some ⟨p, 0, none⟩), .int .i64 x] w fun r w' => r = .returned (.agg #[.int .i64 (lastR L x).k, .int .i64 (lastR L x).n, .string (lastR L x).s]) ∧ Below w.heap.size w w' := by
  have HT : Hid (TA w B p v L) := h
  have HR : Hid (RiseQ L) := hr
  clear h hr
  go_enter Try.func30, Try.ntmps30
  go_upto_region 1 with (fail)
  generalize hW : World.alloc _ _ = W
  have hB : Below w.heap.size w W := by rw [← hW]; exact sone_new w _
  have hZ : W.heap[w.heap.size]? = some (.cells #[.int .i64 0, .int .i64 0, .string (str [])] 60 (0, 0)) := by rw [← hW]; exact heap_alloc_new w _
  clear hW
  obtain ⟨q, hq⟩ : ∃ q, w.heap.size = q := ⟨_, rfl⟩
  have HB : Hid (Below q w W) := by rw [← hq]; exact hB
  have HQ : Hid (w.heap.size = q) := hq
  rw [hq] at hZ ⊢
  have HZ : Hid (W.heap[q]? = some (.cells #[.int .i64 0, .int .i64 0, .string (str [])] 60 (0, 0))) := hZ
  have HT1 : Hid (TA W B p v L) := HT.out.new hB
  clear hB hZ hq
  have hF := sfind x HT1.out hl HR.out
  have HP : Hid (posR L x ≤ L.length) := posR_le L x
  go_upto_region 2 with (go_at_call 43; refine hF.mono ?_; rintro r w1 ⟨rfl, hb1⟩)
  have HT2 : Hid (TA w1 B p v L) := HT1.out.new hb1
  have HZ2 : Hid (w1.heap[q]? = some (.cells #[.int .i64 0, .int .i64 0, .string (str [])] 60 (0, 0))) := (hb1.block q (slt_blk HZ.out)).trans HZ.out
  have HB2 : Hid (Below q w w1) := HB.out.trans (hb1.mono (by have := HQ.out; have := HB.out.size; omega))
  obtain ⟨z0, z1, z2, f0, f1, f2⟩ := sbox3 HZ2.out
  have HFin : Hid (∀ a b c, Below q w (((w1.setCell ⟨q, 0, none⟩ a).setCell ⟨q, 1, none⟩ b).setCell ⟨q, 2, none⟩ c)) := fun a b c => HB2.out.trans ((sset3_fr w1 q a b c).below (by have := HQ.out; have := HB2.out.size; omega) (fun k hk => by omega))
  clear hF hb1
  by_cases hi : isR L x = true
  · have HI : Hid (isR L x = true) := hi
    have hlt : posR L x < L.length := by
      unfold isR at hi
      cases e : L[posR L x]? with
      | none => rw [e] at hi; simp at hi
      | some y => exact (List.getElem?_eq_some_iff.1 e).1
    have HE : Hid (lastR L x = L[posR L x]) := by
      show _ = _
      unfold isR at hi
      unfold lastR
      rw [List.getElem?_eq_getElem hlt] at hi ⊢
      simp only at hi ⊢
      rw [if_pos (by simpa using hi)]
    have c0 := HT2.out.c0
    obtain ⟨ao, c, rfl, hcap, hg⟩ := HT2.out.row.shape
    obtain ⟨g, rfl⟩ := hg (by omega)
    obtain ⟨e0, e1, e2⟩ := HT2.out.row.at_ _ hlt
    generalize L[posR L x] = y at e0 e1 e2 HE
    rw [hi]
    generalize posR L x = j at hlt e0 e1 e2 ⊢
    clear hi
    go_wp2
    refine bodyPost_ret (v := .agg #[.int .i64 y.k, .int .i64 y.n, .string y.s]) (results_cell_row Try.results30 _ _ q 60 _ (0, 0) _ rfl (sset3 _ _ _ HZ2.out) Try.underlying60 rfl size_ask) rfl ?_
    exact ⟨by rw [HE.out], by rw [HQ.out]; exact HFin.out _ _ _⟩
  · have hif : isR L x = false := by simpa using hi
    have HE : Hid (lastR L x = ⟨x, 0, str []⟩) := by
      show _ = _
      unfold isR at hif
      unfold lastR
      cases e : L[posR L x]? with
      | none => rfl
      | some y =>
        rw [e] at hif
        simp only at hif ⊢
        rw [if_neg (by simpa using hif)]
    rw [hif]
    clear hi hif
    go_wp2
    refine bodyPost_ret (v := .agg #[.int .i64 x, .int .i64 0, .string (str [])]) (results_cell_row Try.results30 _ _ q 60 _ (0, 0) _ rfl (sset3 _ _ _ HZ2.out) Try.underlying60 rfl size_ask) rfl ?_
    exact ⟨by rw [HE.out], by rw [HQ.out]; exact HFin.out _ _ _⟩
theorem sseq_nil (x : Int) (w : World) : Calls Try.prog 19 #[.pointer none, .int .i64 x] w fun r w' => r = .returned (.int .i64 0) ∧ w' = w := by
  go_enter Try.func19, Try.ntmps19
  go_wp2
  go_ret
  exact ⟨rfl, rfl⟩
theorem sseq {w : World} {B p : Nat} {v : Value} {L : List Req} (x : Int) (h : TA w B p v L) (hl : L.length ≤ 1000000) (hr : RiseQ L) : Calls Try.prog 19 #[.pointer (some ⟨p, 0, none⟩), .int .i64 x] w fun r w' => r = .returned (.int .i64 (lastR L x).n) ∧ Below w.heap.size w w' := by
  have hF := slast x h hl hr
  have hf : ∀ (a b : Int) (s : ByteArray) (W : World), (Instr.field 60 (.agg #[.int .i64 a, .int .i64 b, .string s]) 1).run Try.prog W = .ok (.int .i64 b) W := fun a b s W => by kernel_rfl
  clear h hr
  go_enter Try.func19, Try.ntmps19
  go_wp2_with (go_at_call 30; refine hF.mono ?_; rintro r w1 ⟨rfl, hb1⟩)
  go_ret
  exact ⟨rfl, hb1⟩
end Go.Proofs.Ytdnakakichblgaa
