import Derived.Test.YtckjjajncgmddaaVwTeM
import Derived.Test.YtckjjajncgmddaaVwNsM
import Derived.Test.YtckjjajncgmddaaVwAlM
/- ViewBytes: what the law holds. -/
namespace Go.Proofs.Ytckjjajncgmddaa
open Go.RowKit
attribute [local go_sem] Oper.semAt_some
theorem EnS.cut {w : World} {ao : Option Addr} {n cap : Nat} {E : List Ent} (h : EnS w (.slice ao n cap) E) (b : Nat) (hb : b ≤ E.length) : EnS w (.slice ao b cap) (E.take b) := by
  obtain ⟨ao', cap', e, h1, h2⟩ := h
  cases e
  refine ⟨ao, cap, by rw [List.length_take, Nat.min_eq_left hb], by rw [List.length_take]; omega, fun h0 => ?_⟩
  rw [List.length_take] at h0
  obtain ⟨b', o, e, hc⟩ := h2 (by omega)
  exact ⟨b', o, e, fun j hj => by rw [List.length_take] at hj; simpa [List.getElem_take] using hc j (by omega)⟩
theorem vbelow_fr {w W W' : World} {q : Nat} (h : Below q w W) (f : Fr W W' (fun k => k = q)) (hq : q ≤ W.heap.size) : Below q w W' :=
  ⟨f.os.trans h.os, f.tape.trans h.tape, f.output.trans h.output, Nat.le_trans h.size f.size, fun k hk => (f.block k (by omega) (by omega)).trans (h.block k hk)⟩
/-- While the law goes on: its message's box, whose entries can be read. -/
structure LB (w W : World) (q : Nat) (k fr tt vw nm ix cm bi bv : Int) (base : ByteArray) (ao : Option Addr) (n cap : Nat) (E : List Ent) : Prop where
  box : W.heap[q]? = some (.cells #[.int .i64 k, .int .i64 fr, .int .i64 tt, .int .i64 vw, .int .i64 nm, .int .i64 ix, .int .i64 cm, .int .i64 bi, .int .i64 bv, .string base, .slice ao n cap] 24 (0, 0))
  ent : EnS W (.slice ao n cap) E
  len : E.length = n
  fr : Below w.heap.size w W
  eq : w.heap.size = q
theorem LB.new {w W W' : World} {q : Nat} {k fr tt vw nm ix cm bi bv : Int} {base : ByteArray} {ao : Option Addr} {n cap : Nat} {E : List Ent} (h : LB w W q k fr tt vw nm ix cm bi bv base ao n cap E) (hb : Below W.heap.size W W') : LB w W' q k fr tt vw nm ix cm bi bv base ao n cap E :=
  ⟨(hb.block q (vlt_blk h.box)).trans h.box, h.ent.new hb, h.len, h.fr.trans (hb.mono h.fr.size), h.eq⟩
theorem six_at {w : World} {g : Nat} {k fr tt vw nm ix cm bi bv : Int} (h : ∀ j (hj : j < [k, fr, tt, vw, nm, ix, cm, bi, bv].length), w.cell? ⟨g, j, none⟩ = some (.int .i64 [k, fr, tt, vw, nm, ix, cm, bi, bv][j])) : ∀ j (hj : j < [vw, nm, ix, cm, bi, bv].length), w.cell? ⟨g, 3 + j, none⟩ = some (.int .i64 [vw, nm, ix, cm, bi, bv][j]) := fun j hj => by
  have hj' : j = 0 ∨ j = 1 ∨ j = 2 ∨ j = 3 ∨ j = 4 ∨ j = 5 := by simp at hj; omega
  rcases hj' with rfl | rfl | rfl | rfl | rfl | rfl
  · exact h 3 (by simp)
  · exact h 4 (by simp)
  · exact h 5 (by simp)
  · exact h 6 (by simp)
  · exact h 7 (by simp)
  · exact h 8 (by simp)
theorem okNs_num (L : List Int) : okNs L = L.all numI := by
  unfold okNs numI
  congr 1
  funext x
  have : (x < 2147483648) = (x ≤ 2147483647) := by rw [eq_iff_iff]; omega
  simp only [this]
end Go.Proofs.Ytckjjajncgmddaa
