/- Step at a name that is none of the five: it tells so, and does nothing. -/
import Derived.Test.YtepdpafpjiaaeaaKnAwake3
namespace Go.Proofs.Ytepdpafpjiaaeaa
open Go.RowKit
/-- None of the five programs of this layer. -/
def noneOf (s : ByteArray) : Prop := (s.toList == [98, 102, 115]) = false ∧ (s.toList == [99, 99]) = false ∧ (s.toList == [100, 101, 103, 114, 101, 101]) = false ∧ (s.toList == [112, 97, 103, 101, 114, 97, 110, 107]) = false ∧ (s.toList == [115, 115, 115, 112]) = false
set_option maxRecDepth 100000 in
set_option maxHeartbeats 1000000 in
theorem step_none {w : World} {st id va ma : Int} {eo mo po : Option Addr} {en ec mn mc pn pc : Nat} {ha u0 u1 u2 u3 u4 u5 u6 u7 u8 u9 : Value} (s : ByteArray) (hs : noneOf s) :
    Calls Try.prog 20 #[.string s, (.agg #[.int .i64 st, .int .i64 id, .int .i64 va, .slice eo en ec, ha, .slice mo mn mc, u0, u1, u2, u3, u4, u5, u6, u7, u8, u9, .int .i64 ma, .slice po pn pc])] w fun r w' => r = .returned (.agg #[.int .i64 0, .bool false, .slice none 0 0, .slice none 0 0, .bool false, .bool false, .bool false, .bool false, .bool false, .int .i64 0, .int .i64 0, .int .i64 0, .int .i64 0, .int .i64 0, .int .i64 70]) ∧ Below w.heap.size w w' := by
  obtain ⟨h1, h2, h3, h4, h5⟩ := hs
  obtain ⟨W0, hW0⟩ : ∃ W0, ((w.alloc (.cells #[.int .i64 st, .int .i64 id, .int .i64 va, .slice eo en ec, ha, .slice mo mn mc, u0, u1, u2, u3, u4, u5, u6, u7, u8, u9, .int .i64 ma, .slice po pn pc] 49)).alloc (.cells #[.int .i64 0, .bool false, .slice none 0 0, .slice none 0 0, .bool false, .bool false, .bool false, .bool false, .bool false, .int .i64 0, .int .i64 0, .int .i64 0, .int .i64 0, .int .i64 0, .int .i64 0] 52)).alloc (.cells #[.int .i64 0, .bool false, .slice none 0 0, .slice none 0 0, .bool false, .bool false, .bool false, .bool false, .bool false, .int .i64 0, .int .i64 0, .int .i64 0, .int .i64 0, .int .i64 0, .int .i64 70] 52) = W0 := ⟨_, rfl⟩
  obtain ⟨hIn, hOut, hOwn, hB0, hs0⟩ := three_boxes w _ _ hW0
  have HOut : Hid _ := hOut
  obtain ⟨_, _, _, _, _, _, _, _, _, _, _, _, _, _, q14⟩ := hOwn.cells
  have HB0 : Hid _ := hB0
  clear hIn hOut hOwn hB0 hs0
  go_enter Try.func20, Try.ntmps20
  go_wp2_with (refine wpList_store_row rfl 52 _ _ rfl (w.heap.size + 1) #[.int .i64 0, .bool false, .slice none 0 0, .slice none 0 0, .bool false, .bool false, .bool false, .bool false, .bool false, .int .i64 0, .int .i64 0, .int .i64 0, .int .i64 0, .int .i64 0, .int .i64 70] rfl rfl 52 #[.int .i64 0, .bool false, .slice none 0 0, .slice none 0 0, .bool false, .bool false, .bool false, .bool false, .bool false, .int .i64 0, .int .i64 0, .int .i64 0, .int .i64 0, .int .i64 0, .int .i64 0] HOut.out size_out rfl (by simp [Value.oneCell']) ?_)
  refine bodyPost_ret (v := .agg #[.int .i64 0, .bool false, .slice none 0 0, .slice none 0 0, .bool false, .bool false, .bool false, .bool false, .bool false, .int .i64 0, .int .i64 0, .int .i64 0, .int .i64 0, .int .i64 0, .int .i64 70]) (results_cell_row Try.results20 _ _ (w.heap.size + 1) 52 _ (0, 0) _ rfl (setRow_heap _ _ _ _ _ _ HOut.out) Try.underlying52 rfl size_out) rfl ?_
  exact ⟨rfl, k_setRow HB0.out (by omega) _⟩
end Go.Proofs.Ytepdpafpjiaaeaa
