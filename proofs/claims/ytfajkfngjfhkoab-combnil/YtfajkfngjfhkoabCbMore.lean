/- Drop of a box; what a nil box answers. -/
import Derived.Test.YtfajkfngjfhkoabCbFor
import Derived.Laws.IdiomRangeMap
namespace Go.Proofs.Ytfajkfngjfhkoab
open Go.RowKit Go.Maps
theorem put_nil (ao : Option Addr) (n cap : Nat) (w : World) : Calls Try.prog 19 #[.pointer none, .slice ao n cap] w fun e w' => e = .returned (.int .i64 1) ∧ w' = w := by
  go_enter Try.func19, Try.ntmps19
  go_wp2
  go_ret
  exact ⟨rfl, rfl⟩
theorem drop_nil {id : Int} (hid : I64 id) (w : World) : Calls Try.prog 23 #[.pointer none, .int .i64 id] w fun e w' => e = .returned (.int .i64 0) ∧ w' = w := by
  have hlk := look_nil hid w
  have hdr := Maps.drop_nil (w := w) law64 Try.underlying67 (keyOf_i64 hid)
  go_enter Try.func23, Try.ntmps23
  go_wp2_with (go_at_call 33; refine (held_nil _).mono ?_; rintro e w1 ⟨rfl, rfl⟩)
  go_ret
  exact ⟨rfl, rfl⟩
set_option maxRecDepth 100000 in
theorem drop_some {w : World} {S : Nat → Prop} {b M N : Nat} {D : DataW Value} {B : List Msg} (hbx : w.heap[b]? = some (.cells #[.map (some M)] 75 (0, 0))) (hSb : S b) (hM : MP w S M N D B) {id : Int} (hid : I64 id) :
    Calls Try.prog 23 #[.pointer (some ⟨b, 0, none⟩), .int .i64 id] w fun r w' => r = .returned (.int .i64 (toV B id).length) ∧ BX w' S b N (offV B id) ∧ Fr w w' S := by
  have hlk := hM.look hid
  have hrow := hM.rows id
  obtain ⟨ao, c, hv⟩ := hrow.shape
  rw [hv] at hlk
  have HM : Hid _ := hM
  have HB : Hid _ := hbx
  have HO : Hid (w.ownsMap Try.prog 2 heldR M N D) := hM.own
  have HNB : Hid _ := hM.notBox hbx
  have HK : Hid _ := keyOf_i64 hid
  clear hM hbx hrow hv
  go_enter Try.func23, Try.ntmps23
  go_wp2_with (first
    | (go_at_call 33; refine (held_box HB.out).mono ?_; rintro e w1 ⟨rfl, rfl⟩)
    | (at_delete; refine wpList_delete_own _ rfl _ _ 67 2 rfl 22 law64 Try.underlying67 heldR M N D rfl HO.out _ _ rfl HK.out ?_; intro w2 hown2 hturn; have HO2 : Hid _ := hown2; have HT : Hid _ := hturn; clear hown2 hturn))
  go_ret
  have hg := World.mapTurned.grown HT.out
  refine ⟨rfl, ⟨⟨_, (hg.block b (m_lt HB.out) (fun e => by cases e; exact HNB.out.1 rfl)).trans HB.out, .some M _ (HM.out.del HO2.out hg)⟩, hSb⟩, Fr.grown hg (fun k hk => by cases hk; exact HM.out.inS)⟩
set_option maxRecDepth 100000 in
theorem drop_none {w : World} {b : Nat} (hbx : w.heap[b]? = some (.cells #[.map none] 75 (0, 0))) {id : Int} (hid : I64 id) :
    Calls Try.prog 23 #[.pointer (some ⟨b, 0, none⟩), .int .i64 id] w fun e w' => e = .returned (.int .i64 0) ∧ w' = w := by
  have hlk := look_nil hid w
  have hdr := Maps.drop_nil (w := w) law64 Try.underlying67 (keyOf_i64 hid)
  have HB : Hid _ := hbx
  clear hbx
  go_enter Try.func23, Try.ntmps23
  go_wp2_with (go_at_call 33; refine (held_box HB.out).mono ?_; rintro e w1 ⟨rfl, rfl⟩)
  go_ret
  exact ⟨rfl, rfl⟩
theorem drop_box {w : World} {S : Nat → Prop} {b N : Nat} {B : List Msg} (hX : BX w S b N B) {id : Int} (hid : I64 id) :
    Calls Try.prog 23 #[.pointer (some ⟨b, 0, none⟩), .int .i64 id] w fun r w' => r = .returned (.int .i64 (toV B id).length) ∧ BX w' S b N (offV B id) ∧ Fr w w' S := by
  have hX' := hX
  obtain ⟨⟨mv, h1, h2⟩, h3⟩ := hX
  rcases h2 with ⟨rfl, h⟩ | ⟨M, D, rfl, h⟩
  · subst h
    refine (drop_none h1 hid).mono ?_
    rintro e w' ⟨rfl, rfl⟩
    exact ⟨rfl, hX', Fr.refl _ _⟩
  · exact drop_some h1 h3 h hid
set_option maxRecDepth 100000 in
theorem len_nil (w : World) : Calls Try.prog 20 #[.pointer none] w fun e w' => e = .returned (.int .i64 0) ∧ Below w.heap.size w w' := by
  have hrg := run_range_nilMap (P := Try.prog) w 67 _ _ Try.underlying67
  have hnx : ∀ ty, (Instr.next (.pointer (some ⟨w.heap.size, 0, none⟩)) false ty).run Try.prog (w.alloc (.mapIter none 0 #[] 0)) = _ := fun ty => run_next_nilMap _ ty 0 0 #[]
  go_enter Try.func20, Try.ntmps20
  go_wp2_with (go_at_call 33; refine (held_nil _).mono ?_; rintro e w1 ⟨rfl, rfl⟩)
  refine wp_loop_rounds 1 ?_
  rw [rounds_succ]
  go_wp2
  go_ret
  exact ⟨rfl, (Below.refl _ _).alloc (Nat.le_refl _) _⟩
end Go.Proofs.Ytfajkfngjfhkoab
