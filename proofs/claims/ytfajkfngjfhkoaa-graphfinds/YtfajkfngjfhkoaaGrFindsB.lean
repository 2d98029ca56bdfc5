/- GraphFinds: its boxes and the copy. -/
import Derived.Test.YtfajkfngjfhkoaaGrClone3
import Derived.Test.YtfajkfngjfhkoaaGrFind2
import Derived.Test.YtfajkfngjfhkoaaGrSame
import Derived.Test.YtfajkfngjfhkoaaGrRefK
import Derived.Test.YtfajkfngjfhkoaaGrAwake
namespace Go.Proofs.Ytfajkfngjfhkoaa
open Go.RowKit
theorem soft_froz {w : World} {k o : Nat} (h : Soft w k) : w.frozen? ⟨k, o, none⟩ = false := by
  obtain ⟨cs, t, h⟩ := h
  simp [World.frozen?, h]
theorem CW.lower {w : World} {B B' N rb : Nat} {G : List Vx} (h : CW w B N rb G) (hB : B' ≤ B) : CW w B' N rb G := by
  refine ⟨h.soft, Nat.le_trans hB h.low, h.up, fun j hj => ?_⟩
  obtain ⟨eo, ec, e0, e1, e2, e3⟩ := h.vx j hj
  exact ⟨eo, ec, e0, e1, e2, e3.mono (fun k _ hk => ⟨Nat.le_trans hB hk.1, hk.2⟩)⟩
/-- The graph's box, the copy's box, the copy. -/
structure LF (w wr : World) (ao : Option Addr) (cap cb rb n c : Nat) (H : List Vx) : Prop where
  gb : wr.heap[w.heap.size]? = some (.cells #[.slice ao n cap] 24 (0, 0))
  cbx : wr.heap[cb]? = some (.cells #[.slice (some ⟨rb, 0, none⟩) n c] 24 (0, 0))
  cw : CW wr (w.heap.size + 1) cb rb H
  low : Below w.heap.size w wr
section
variable {w wr w' : World} {ao : Option Addr} {cap cb rb n c : Nat} {H : List Vx}
theorem LF.new (h : LF w wr ao cap cb rb n c H) (hb : Below wr.heap.size wr w') : LF w w' ao cap cb rb n c H :=
  ⟨(hb.block _ (lt_of_block h.gb)).trans h.gb, (hb.block _ (lt_of_block h.cbx)).trans h.cbx, h.cw.new hb, h.low.trans (hb.mono h.low.size)⟩
theorem LF.val (h : LF w wr ao cap cb rb n c H) (i : Nat) (x : Int) : LF w (wr.setCell ⟨rb, i * 3 + 1, none⟩ (.int .i64 x)) ao cap cb rb n c (setV H i x) := by
  have f : Fr wr (wr.setCell ⟨rb, i * 3 + 1, none⟩ (.int .i64 x)) (fun k => k = rb) := Fr.setCell (S := fun k => k = rb) wr ⟨rb, i * 3 + 1, none⟩ _ rfl
  have h1 := h.cw.low
  have h2 := h.cw.up
  exact ⟨(f.block _ (lt_of_block h.gb) (by omega)).trans h.gb, (f.block _ (lt_of_block h.cbx) (by omega)).trans h.cbx, h.cw.val i x, h.low.trans (f.below h.low.size (fun k hk => by omega))⟩
theorem LF.edge (h : LF w wr ao cap cb rb n c H) {b : Nat} (o : Nat) (hb : w.heap.size + 1 ≤ b ∧ b ≠ rb ∧ Soft wr b ∧ b < cb) (x : Int) : ∃ H', Like H H' ∧ LF w (wr.setCell ⟨b, o, none⟩ (.int .i64 x)) ao cap cb rb n c H' := by
  have f : Fr wr (wr.setCell ⟨b, o, none⟩ (.int .i64 x)) (fun k => k = b) := Fr.setCell (S := fun k => k = b) wr ⟨b, o, none⟩ _ rfl
  obtain ⟨H', hl, hc⟩ := h.cw.edge (b := b) (o := o) hb.2.1 x
  have h2 := hb.1
  have h3 := hb.2.2.2
  exact ⟨H', hl, (f.block _ (lt_of_block h.gb) (by omega)).trans h.gb, (f.block _ (lt_of_block h.cbx) (by omega)).trans h.cbx, hc, h.low.trans (f.below h.low.size (fun k hk => by omega))⟩
end
theorem Like.refl (G : List Vx) : Like G G := ⟨rfl, fun _ _ => ⟨rfl, rfl, rfl⟩⟩
theorem Like.trans {F G H : List Vx} (h : Like F G) (k : Like G H) : Like F H := by
  obtain ⟨h0, h1⟩ := h
  obtain ⟨k0, k1⟩ := k
  exact ⟨k0.trans h0, fun j hj => ⟨(k1 j hj).1.trans (h1 j (by omega)).1, (k1 j hj).2.1.trans (h1 j (by omega)).2.1, (k1 j hj).2.2.trans (h1 j (by omega)).2.2⟩⟩
theorem rise_of {G : List Vx} (h : chk G = 0) : G.length ≤ 256 ∧ Rise (ids G) := by
  unfold chk at h
  split at h
  · cases h
  · rename_i hn
    refine ⟨by omega, (riseB_iff _).1 ?_⟩
    cases hb : riseB (ids G) with
    | true => rfl
    | false => exact absurd (Or.inr hb) hn
theorem clone_more {w : World} {P : Nat → Prop} {ao : Option Addr} (G : List Vx) (cap : Nat) (h : VxAt w P ao G) (hok : ∀ v ∈ G, v.ok) (hl : G.length * 40 ≤ 140737488355328) (h0 : 0 < G.length) :
    Calls Try.prog 21 #[.agg #[.slice ao G.length cap]] w fun r w' => ∃ rb c, r = .returned (.agg #[.slice (some ⟨rb, 0, none⟩) G.length c]) ∧ CW w' w.heap.size w'.heap.size rb G ∧ Below w.heap.size w w' := by
  refine (clonew_any G cap h hok hl).mono ?_
  rintro r w' ⟨⟨rfl, _⟩ | ⟨_, rb, c, hr, hc⟩, hb⟩
  · simp at h0
  · exact ⟨rb, c, hr, hc.lower (by omega), hb⟩
/-- The graph's box alone. -/
structure GB (w wr : World) (ao : Option Addr) (n cap : Nat) : Prop where
  gb : wr.heap[w.heap.size]? = some (.cells #[.slice ao n cap] 24 (0, 0))
  low : Below w.heap.size w wr
theorem GB.new {w wr w' : World} {ao : Option Addr} {n cap : Nat} (h : GB w wr ao n cap) (hb : Below wr.heap.size wr w') : GB w w' ao n cap := ⟨(hb.block _ (lt_of_block h.gb)).trans h.gb, h.low.trans (hb.mono h.low.size)⟩
theorem GB.cell {w wr : World} {ao : Option Addr} {n cap : Nat} (h : GB w wr ao n cap) : wr.cell? ⟨w.heap.size, 0, none⟩ = some (.slice ao n cap) := (cl_one h.gb).1
end Go.Proofs.Ytfajkfngjfhkoaa
