/- Region 12 of AggOrders: whatever order its operations take. -/
import Derived.Test.YtjbkbhilcmiamaaAgRow
import Derived.Deep.RegionHeld
namespace Go.Proofs.Ytjbkbhilcmiamaa
open Go.RowKit
theorem box_two {w : World} {g h : Nat} {t : TypeId} {o : Nat → Option Int} (h1 : w.heap[g]? = some (.cells (AOc o) t (0, 0))) (h2 : w.heap[h]? = some (.cells (AOc o) t (0, 0))) : w.cell? ⟨g, 0, none⟩ = some (.bool (oh o 0)) ∧ w.cell? ⟨g, 1, none⟩ = some (.bool (oh o 1)) ∧ w.cell? ⟨g, 2, none⟩ = some (.bool (oh o 2)) ∧ w.cell? ⟨g, 3, none⟩ = some (.bool (oh o 3)) ∧ w.cell? ⟨g, 4, none⟩ = some (.bool (oh o 4)) ∧ w.cell? ⟨g, 5, none⟩ = some (.int .i64 (ov o 0)) ∧ w.cell? ⟨g, 6, none⟩ = some (.int .i64 (ov o 1)) ∧ w.cell? ⟨g, 7, none⟩ = some (.int .i64 (ov o 2)) ∧ w.cell? ⟨g, 8, none⟩ = some (.int .i64 (ov o 3)) ∧ w.cell? ⟨g, 9, none⟩ = some (.int .i64 (ov o 4)) ∧ w.cell? ⟨h, 0, none⟩ = some (.bool (oh o 0)) ∧ w.cell? ⟨h, 1, none⟩ = some (.bool (oh o 1)) ∧ w.cell? ⟨h, 2, none⟩ = some (.bool (oh o 2)) ∧ w.cell? ⟨h, 3, none⟩ = some (.bool (oh o 3)) ∧ w.cell? ⟨h, 4, none⟩ = some (.bool (oh o 4)) ∧ w.cell? ⟨h, 5, none⟩ = some (.int .i64 (ov o 0)) ∧ w.cell? ⟨h, 6, none⟩ = some (.int .i64 (ov o 1)) ∧ w.cell? ⟨h, 7, none⟩ = some (.int .i64 (ov o 2)) ∧ w.cell? ⟨h, 8, none⟩ = some (.int .i64 (ov o 3)) ∧ w.cell? ⟨h, 9, none⟩ = some (.int .i64 (ov o 4)) := by
  obtain ⟨c0, c1, c2, c3, c4, c5, c6, c7, c8, c9⟩ := box_ao h1
  exact ⟨c0, c1, c2, c3, c4, c5, c6, c7, c8, c9, box_ao h2⟩
set_option maxRecDepth 100000 in
set_option maxHeartbeats 1000000 in
theorem orders_r12 {wr : World} {P : Nat → Prop} {g cap h1 h2 : Nat} {D : List Ed} {x0 x1 x2 x3 x4 x6 x7 x8 x13 x14 x15 x16 x17 x18 x19 x20 x21 x22 x23 x24 x25 x26 x27 x28 x29 x30 x31 x32 x33 x34 x35 x36 x37 x38 x39 x40 x41 x42 x43 x44 x45 x46 x47 x48 x49 x50 x51 x52 x53 x54 x55 x56 x57 x58 x59 x60 x61 x62 x63 x64 x65 x66 x67 x68 x69 x70 x71 x72 x73 x74 x75 x76 x77 x78 x79 x80 x81 x82 x83 x84 x85 x86 x87 x88 x89 x90 x91 x92 x93 : Value} {K : Act → World → Prop} {Q' : Exit → Act → World → Prop}
    (hD : D.length ≤ 40) (HO : Hid (∀ y ∈ D, y.ok)) (HE : Hid (EdAt wr P (some ⟨g, 0, none⟩) D))
    (H1 : Hid (wr.heap[h1]? = some (.cells (AOc (allO D)) 26 (0, 0)))) (H2 : Hid (wr.heap[h2]? = some (.cells (AOc (allO D)) 26 (0, 0))))
    (HC : ∀ (wx : World) (u74 u75 u76 u77 u78 u79 u80 u81 u82 u83 u84 u85 u86 u87 u88 u89 u90 u91 u92 u93 : Value), Below wr.heap.size wr wx → K ⟨#[x0, x1, x2, x3, (.bool true), (.slice (some ⟨g, 0, none⟩) D.length cap), x6, x7, x8, (.pointer (some ⟨h1, 0, none⟩)), (.int .i64 0), (.pointer (some ⟨h2, 0, none⟩)), (.int .i64 0), x13, x14, x15, x16, x17, x18, x19, x20, x21, x22, x23, x24, x25, x26, x27, x28, x29, x30, x31, x32, x33, x34, x35, x36, x37, x38, x39, x40, x41, x42, x43, x44, x45, x46, x47, x48, x49, x50, x51, x52, x53, x54, x55, x56, x57, x58, x59, x60, x61, x62, x63, x64, x65, x66, x67, x68, x69, x70, x71, x72, x73, u74, u75, u76, u77, u78, u79, u80, u81, u82, u83, u84, u85, u86, u87, u88, u89, u90, u91, u92, u93], []⟩ wx) :
    Code.wp Try.prog ((Try.f5.body.bind (regionOf 12)).getD .skip) (Exit.then K Q') ⟨#[x0, x1, x2, x3, x4, (.slice (some ⟨g, 0, none⟩) D.length cap), x6, x7, x8, (.pointer (some ⟨h1, 0, none⟩)), (.int .i64 0), (.pointer (some ⟨h2, 0, none⟩)), (.int .i64 0), x13, x14, x15, x16, x17, x18, x19, x20, x21, x22, x23, x24, x25, x26, x27, x28, x29, x30, x31, x32, x33, x34, x35, x36, x37, x38, x39, x40, x41, x42, x43, x44, x45, x46, x47, x48, x49, x50, x51, x52, x53, x54, x55, x56, x57, x58, x59, x60, x61, x62, x63, x64, x65, x66, x67, x68, x69, x70, x71, x72, x73, x74, x75, x76, x77, x78, x79, x80, x81, x82, x83, x84, x85, x86, x87, x88, x89, x90, x91, x92, x93], []⟩ wr := by
  have HH : Hid _ := HC
  have hu : undef = Value.tuple #[] := rfl
  have n1 := fun w' => eqlE (w := w') (allO D)
  have n2 := fun w' x y => guardE .eql (w := w') x y (allO D)
  unfold AOc AC at n1 n2
  clear HC
  refine wp_mono (Q := Exit.then K (fun _ _ _ => False)) ?_ (fun e a' w' hq => ?_)
  rotate_left
  · cases e with
    | normal => exact hq
    | exit id => exact hq.elim
    | goto l => exact hq.elim
    | ret => exact hq.elim
    | panic ch => exact hq.elim
    | outgrown => exact hq.elim
  conv => arg 2; whnf
  have x3 := box_two H1.out H2.out
  go_region_held (fun w' => w'.cell? ⟨h1, 0, none⟩ = some (.bool (oh (allO D) 0)) ∧ w'.cell? ⟨h1, 1, none⟩ = some (.bool (oh (allO D) 1)) ∧ w'.cell? ⟨h1, 2, none⟩ = some (.bool (oh (allO D) 2)) ∧ w'.cell? ⟨h1, 3, none⟩ = some (.bool (oh (allO D) 3)) ∧ w'.cell? ⟨h1, 4, none⟩ = some (.bool (oh (allO D) 4)) ∧ w'.cell? ⟨h1, 5, none⟩ = some (.int .i64 (ov (allO D) 0)) ∧ w'.cell? ⟨h1, 6, none⟩ = some (.int .i64 (ov (allO D) 1)) ∧ w'.cell? ⟨h1, 7, none⟩ = some (.int .i64 (ov (allO D) 2)) ∧ w'.cell? ⟨h1, 8, none⟩ = some (.int .i64 (ov (allO D) 3)) ∧ w'.cell? ⟨h1, 9, none⟩ = some (.int .i64 (ov (allO D) 4)) ∧ w'.cell? ⟨h2, 0, none⟩ = some (.bool (oh (allO D) 0)) ∧ w'.cell? ⟨h2, 1, none⟩ = some (.bool (oh (allO D) 1)) ∧ w'.cell? ⟨h2, 2, none⟩ = some (.bool (oh (allO D) 2)) ∧ w'.cell? ⟨h2, 3, none⟩ = some (.bool (oh (allO D) 3)) ∧ w'.cell? ⟨h2, 4, none⟩ = some (.bool (oh (allO D) 4)) ∧ w'.cell? ⟨h2, 5, none⟩ = some (.int .i64 (ov (allO D) 0)) ∧ w'.cell? ⟨h2, 6, none⟩ = some (.int .i64 (ov (allO D) 1)) ∧ w'.cell? ⟨h2, 7, none⟩ = some (.int .i64 (ov (allO D) 2)) ∧ w'.cell? ⟨h2, 8, none⟩ = some (.int .i64 (ov (allO D) 3)) ∧ w'.cell? ⟨h2, 9, none⟩ = some (.int .i64 (ov (allO D) 4))) (first | exact x5 | exact x4 | exact x3 | go_keep)
    (first
    | (go_at_call 12; refine (awake4_any _).mono ?_; rintro e w1 ⟨rfl, hb1⟩; have b1 := below_c' hb1; have B1 : Hid _ := b1; have Z1 : Hid _ := (b1.block h1 (lt_of_block H1.out)).trans H1.out; have Z2 : Hid _ := (b1.block h2 (lt_of_block H2.out)).trans H2.out; have x4 := box_two Z1.out Z2.out; clear b1)
    | (go_at_call 13; refine (all_len (some ⟨g, 0, none⟩) cap D.length D _ rfl (HE.out.new B1.out) HO.out (by omega)).mono ?_; rintro e w2 ⟨rfl, hb2⟩; have B2 : Hid _ := B1.out.trans (hb2.mono B1.out.size); have x5 := box_two ((hb2.block h1 (lt_of_block Z1.out)).trans Z1.out) ((hb2.block h2 (lt_of_block Z2.out)).trans Z2.out); simp only [AO, AG]))
  all_goals exact HH.out _ _ _ _ _ _ _ _ _ _ _ _ _ _ _ _ _ _ _ _ _ B2.out
end Go.Proofs.Ytjbkbhilcmiamaa
