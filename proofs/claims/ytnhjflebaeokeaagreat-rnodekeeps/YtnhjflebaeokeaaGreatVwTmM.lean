import Derived.Test.YtnhjflebaeokeaaGreatVwBmM
import Derived.Laws.Tables
/- A message off bytes. -/
namespace Go.Proofs.YtnhjflebaeokeaaGreat
open Go.RowKit
attribute [local go_sem] Oper.semAt_some
theorem vfree {W : World} {q : Nat} {cs : Array Value} {t : TypeId} (h : W.heap[q]? = some (.cells cs t (0, 0))) (i : Nat) : W.frozen? ⟨q, i, none⟩ = false := by simp [World.frozen?, h]
theorem vfr_setRow (w : World) (g : Nat) (cs : Array Value) : Fr w (w.setRow g cs) (fun k => k = g) := ⟨rfl, rfl, rfl, by simp, fun k _ hn => setRow_other w g k cs hn⟩
theorem EnO.high {w : World} {B : Nat} {v : Value} {L : List Ent} (h : EnO w 0 v L) (hO : ∀ k, v.ownBlock = some k → B ≤ k) : EnO w B v L := by
  refine ⟨h.1, ?_⟩
  rcases h.2 with h2 | ⟨g, cap, cur, rfl, h3, h4⟩
  · exact .inl h2
  · exact .inr ⟨g, cap, cur, rfl, hO g rfl, h4⟩
/-- While a message is read: the reader, the result's block, the message's. -/
structure TM (w W : World) (p r q : Nat) (s : ByteArray) (a : Nat) (e : Int) (mc : Array Value) : Prop where
  rd : Rd W p s a e
  res : W.heap[r]? = some (.cells #[.int .i64 0, .int .i64 0, .int .i64 0, .int .i64 0, .int .i64 0, .int .i64 0, .int .i64 0, .int .i64 0, .int .i64 0, .string (str []), .slice none 0 0] 59 (0, 0))
  box : W.heap[q]? = some (.cells mc 59 (0, 0))
  fr : Fr w W (fun k => k = p)
  pw : p < w.heap.size
  wr : w.heap.size = r
  rq : r < q
section
variable {w W W' : World} {p r q : Nat} {s : ByteArray} {a a' : Nat} {e e' : Int} {mc : Array Value}
theorem TM.read (h : TM w W p r q s a e mc) (hr : Rd W' p s a' e') (f : Fr W W' (fun k => k = p)) : TM w W' p r q s a' e' mc := by
  have h1 := h.pw
  have h2 := h.wr
  have h3 := h.rq
  exact ⟨hr, (f.block r (vlt_blk h.res) (by omega)).trans h.res, (f.block q (vlt_blk h.box) (by omega)).trans h.box, h.fr.trans f (fun _ _ h => h), h1, h2, h3⟩
theorem TM.set (h : TM w W p r q s a e mc) (i : Nat) (v : Value) : TM w (W.setCell ⟨q, i, none⟩ v) p r q s a e (mc.setIfInBounds i v) := by
  have h1 := h.pw
  have h2 := h.wr
  have h3 := h.rq
  have f : Fr W (W.setCell ⟨q, i, none⟩ v) (fun k => k = q) := Fr.setCell (S := fun k => k = q) _ ⟨q, i, none⟩ _ rfl
  exact ⟨(f.block p (vlt_blk h.rd) (by omega)).trans h.rd, (f.block r (vlt_blk h.res) (by omega)).trans h.res, vblk_set v h.box, h.fr.trans f (fun k hk e => by omega), h1, h2, h3⟩
theorem TM.new (h : TM w W p r q s a e mc) (hb : Below W.heap.size W W') : TM w W' p r q s a e mc :=
  ⟨(hb.block p (vlt_blk h.rd)).trans h.rd, (hb.block r (vlt_blk h.res)).trans h.res, (hb.block q (vlt_blk h.box)).trans h.box, h.fr.trans (Fr.ofBelow hb _) (fun _ _ h => h), h.pw, h.wr, h.rq⟩
theorem TM.kept (h : TM w W p r q s a e mc) {v : Value} (f : Fr W W' (fun k => v.ownBlock = some k)) (hv : ∀ k, v.ownBlock = some k → w.heap.size < k ∧ k ≠ q) : TM w W' p r q s a e mc := by
  have h1 := h.pw
  have h2 := h.wr
  have h3 := h.rq
  refine ⟨(f.block p (vlt_blk h.rd) (fun e => by have := hv p e; omega)).trans h.rd, (f.block r (vlt_blk h.res) (fun e => by have := hv r e; omega)).trans h.res, (f.block q (vlt_blk h.box) (fun e => (hv q e).2 rfl)).trans h.box, h.fr.trans f (fun k hk e => by have := hv k e; omega), h1, h2, h3⟩
end
end Go.Proofs.YtnhjflebaeokeaaGreat
