/- AggAdds: its boxes. -/
import Derived.Test.YtjbkbhilcmiamaaAgAwake
namespace Go.Proofs.Ytjbkbhilcmiamaa
open Go.RowKit
/-- The two boxes of AggAdds, and what lay below them. -/
structure XY (w wr : World) (o p : Nat → Option Int) : Prop where
  bx : wr.heap[w.heap.size]? = some (.cells (AOc o) 26 (0, 0))
  by_ : wr.heap[w.heap.size + 1]? = some (.cells (AOc p) 26 (0, 0))
  low : Below w.heap.size w wr
theorem XY.new {w wr w' : World} {o p : Nat → Option Int} (h : XY w wr o p) (hb : Below wr.heap.size wr w') : XY w w' o p :=
  ⟨(hb.block _ (lt_of_block h.bx)).trans h.bx, (hb.block _ (lt_of_block h.by_)).trans h.by_, h.low.trans (hb.mono h.low.size)⟩
theorem XY.al {w wr : World} {o p : Nat → Option Int} (h : XY w wr o p) (x : Obj) : XY w (wr.alloc x) o p := h.new (one_new' _ _)
theorem XY.putx {w wr w' : World} {o p o' : Nat → Option Int} (h : XY w wr o p) (f : Fr wr w' (fun k => k = w.heap.size)) (hn : w'.heap[w.heap.size]? = some (.cells (AOc o') 26 (0, 0))) : XY w w' o' p :=
  ⟨hn, (f.block _ (lt_of_block h.by_) (by omega)).trans h.by_, h.low.trans (f.below h.low.size (fun k hk => by omega))⟩
theorem XY.puty {w wr w' : World} {o p p' : Nat → Option Int} (h : XY w wr o p) (f : Fr wr w' (fun k => k = w.heap.size + 1)) (hn : w'.heap[w.heap.size + 1]? = some (.cells (AOc p') 26 (0, 0))) : XY w w' o p' :=
  ⟨(f.block _ (lt_of_block h.bx) (by omega)).trans h.bx, hn, h.low.trans (f.below h.low.size (fun k hk => by omega))⟩
theorem XY.drew {w wr : World} {o p : Nat → Option Int} (h : XY w wr o p) : XY w wr.drew o p := ⟨h.bx, h.by_, h.low.drew⟩
theorem XY.oth {w wr w' : World} {o p : Nat → Option Int} {g : Nat} (h : XY w wr o p) (f : Fr wr w' (fun k => k = g)) (hg : w.heap.size + 1 < g) : XY w w' o p :=
  ⟨(f.block _ (lt_of_block h.bx) (by omega)).trans h.bx, (f.block _ (lt_of_block h.by_) (by omega)).trans h.by_, h.low.trans (f.below h.low.size (fun k hk => by omega))⟩
theorem al_lt (w : World) (x : Obj) : w.heap.size < (w.alloc x).heap.size := by rw [World.size_alloc]; omega
theorem below_al {w w1 : World} {x : Obj} (h : Below (w.alloc x).heap.size (w.alloc x) w1) : Below w.heap.size w w1 := (one_new' w x).trans (h.mono (Nat.le_of_lt (al_lt w x)))
theorem new_at {w w1 : World} {x : Obj} (h : Below (w.alloc x).heap.size (w.alloc x) w1) : w1.heap[w.heap.size]? = some x := (h.block _ (al_lt w x)).trans (heap_alloc_new _ _)
theorem below_ald {w w1 : World} {x : Obj} (h : Below (w.alloc x).drew.heap.size (w.alloc x).drew w1) : Below w.heap.size w w1 := (one_new' w x).trans ((below_c' h).mono (Nat.le_of_lt (al_lt w x)))
theorem new_atd {w w1 : World} {x : Obj} (h : Below (w.alloc x).drew.heap.size (w.alloc x).drew w1) : w1.heap[w.heap.size]? = some x := ((below_c' h).block _ (al_lt w x)).trans (heap_alloc_new _ _)
theorem neqE {w : World} (o : Nat → Option Int) : (binOp .neq 26 (.agg (AOc o)) (.agg (AOc o))).run Try.prog w = .ok (.bool false) w := run_neqAG w (oh o) (ov o)
theorem eqlE {w : World} (o : Nat → Option Int) : (binOp .eql 26 (.agg (AOc o)) (.agg (AOc o))).run Try.prog w = .ok (.bool true) w := run_eqlAG w (oh o) (ov o)
theorem guardE (op : BinOp) {w : World} (x y : Operand) (o : Nat → Option Int) : (eqGuard op 26 x y (.agg (AOc o)) (.agg (AOc o))).run Try.prog w = .ok () w := run_guardAG op w x y (oh o) (ov o)
/-- A region of a function's code. -/
def regionOf (n : Nat) : Code → Option Code
  | .region m ops d => if m = n then some (.region m ops d) else none
  | .loop c => regionOf n c
  | .seq a b => match regionOf n a with
    | some c => some c
    | none => regionOf n b
  | .block _ c => regionOf n c
  | .scope c => regionOf n c
  | .cond _ a b => match regionOf n a with
    | some c => some c
    | none => regionOf n b
  | _ => none
end Go.Proofs.Ytjbkbhilcmiamaa
