/- Region 6 of AggAdds: whatever order its operations take. -/
import Derived.Test.YtjbkbhilcmiamaaAgXY
namespace Go.Proofs.Ytjbkbhilcmiamaa
open Go.RowKit
set_option maxRecDepth 100000 in
set_option maxHeartbeats 8000000 in
theorem adds_r6 {w wr : World} {b off n cap k g0 : Nat} {o : Nat → Option Int} {z : Ed} {x1 x2 x3 x6 x7 x8 x9 x10 x11 x12 x13 x14 x15 x16 x17 x18 x19 x20 x21 x22 x23 x24 x25 x26 x27 x28 x29 x30 x31 x32 x33 x34 x35 x36 x37 x38 x39 x40 x41 x42 x43 x44 x45 x46 x47 x48 x49 x50 x51 x52 x53 x54 x55 x56 x57 x58 x59 x60 x61 x62 x63 x64 x65 x66 x67 x68 x69 x70 x71 x72 x73 x74 x75 x76 x77 x78 x79 x80 x81 x82 x83 x84 x85 x86 x87 x88 x89 x90 x91 x92 x93 x94 x95 x96 x97 x98 x99 x100 x101 x102 x103 x104 x105 x106 x107 x108 x109 x110 x111 x112 x113 x114 x115 x116 x117 x118 x119 x120 x121 : Value} {K : Act → World → Prop} {Q' : Exit → Act → World → Prop}
    (hlt : k < n) (HK : Hid (OkO o)) (HZ : Hid z.ok) (HX : Hid (XY w wr o o)) (HG : Hid (wr.heap[g0]? = some (.cells (AOc (addO o z.t z.w)) 26 (0, 0)))) (f0 : wr.cell? ⟨b, off + k * 2, none⟩ = some (.int .i64 z.t)) (f1 : wr.cell? ⟨b, off + k * 2 + 1, none⟩ = some (.int .i64 z.w))
    (HC : ∀ (g : Nat) (wx : World) (u36 u37 u38 u39 u40 u41 u42 u43 u44 u45 u46 u47 u48 u49 u50 : Value), wx.heap[g]? = some (.cells (AOc (addO o z.t z.w)) 26 (0, 0)) → wx.heap[g0]? = some (.cells (AOc (addO o z.t z.w)) 26 (0, 0)) → g0 < g → XY w wx o o → K ⟨#[(.slice (some ⟨b, off, none⟩) n cap), x1, x2, x3, (.pointer (some ⟨w.heap.size + 1, 0, none⟩)), (.int .i64 (k : Int)), x6, x7, (.pointer (some ⟨g, 0, none⟩)), (.int .i64 (addE o z.t z.w)), x10, x11, x12, x13, x14, x15, x16, x17, x18, x19, x20, x21, x22, x23, x24, x25, x26, x27, x28, x29, x30, x31, x32, x33, x34, x35, u36, u37, u38, u39, u40, u41, u42, u43, u44, u45, u46, u47, u48, u49, u50, x51, x52, x53, x54, x55, x56, x57, x58, x59, x60, x61, x62, x63, x64, x65, x66, x67, x68, x69, x70, x71, x72, x73, x74, x75, x76, x77, x78, x79, x80, x81, x82, x83, x84, x85, x86, x87, x88, x89, x90, x91, x92, x93, x94, x95, x96, x97, x98, x99, x100, x101, x102, x103, x104, x105, x106, x107, x108, x109, x110, x111, x112, x113, x114, x115, x116, x117, x118, x119, x120, x121], []⟩ wx) :
    Code.wp Try.prog ((Try.f3.body.bind (regionOf 6)).getD .skip) (Exit.then K Q') ⟨#[(.slice (some ⟨b, off, none⟩) n cap), x1, x2, x3, (.pointer (some ⟨w.heap.size + 1, 0, none⟩)), (.int .i64 (k : Int)), x6, x7, x8, x9, x10, x11, x12, x13, x14, x15, x16, x17, x18, x19, x20, x21, x22, x23, x24, x25, x26, x27, x28, x29, x30, x31, x32, x33, x34, x35, x36, x37, x38, x39, x40, x41, x42, x43, x44, x45, x46, x47, x48, x49, x50, x51, x52, x53, x54, x55, x56, x57, x58, x59, x60, x61, x62, x63, x64, x65, x66, x67, x68, x69, x70, x71, x72, x73, x74, x75, x76, x77, x78, x79, x80, x81, x82, x83, x84, x85, x86, x87, x88, x89, x90, x91, x92, x93, x94, x95, x96, x97, x98, x99, x100, x101, x102, x103, x104, x105, x106, x107, x108, x109, x110, x111, x112, x113, x114, x115, x116, x117, x118, x119, x120, x121], []⟩ wr := by
  have HH : Hid _ := HC
  clear HC
  refine wp_mono (Q := Exit.then K (fun _ _ _ => False)) ?_ (fun e a' w' hq => ?_)
  rotate_left
  · cases e with
    | normal => exact hq
    | exit id => exact hq.elim
    | goto l => exact hq.elim
    | ret => exact hq.elim
    | panic ch => exact hq.elim
    | outgrown => exact hq.elim
  conv => arg 2; whnf
  obtain ⟨c0, c1, c2, c3, c4, c5, c6, c7, c8, c9⟩ := box_ao HX.out.by_
  have lb := lt_cell f0
  have lx := lt_of_block HX.out.by_
  have lg := lt_of_block HG.out
  go_region_with (go_at_call 10; refine (lAdd_any o z.t z.w _ HK.out HZ.out.w).mono ?_; rintro e w1 ⟨rfl, hb1⟩; first | (have hz := new_atd (w := wr) (x := .cells #[.bool false, .bool false, .bool false, .bool false, .bool false, .int .i64 0, .int .i64 0, .int .i64 0, .int .i64 0, .int .i64 0] 26) hb1; obtain ⟨y0, y1, y2, y3, y4, y5, y6, y7, y8, y9⟩ := mblk10 hz; obtain ⟨q0, q1, q2, q3, q4, q5, q6, q7, q8, q9⟩ := fro_ao hz; have HZ1 : Hid _ := hz; clear hz; simp only [AO, AG]) | simp only [AO, AG])
  all_goals
    first
      | (have := HZ1; exact HH.out wr.heap.size _ _ _ _ _ _ _ _ _ _ _ _ _ _ _ _ (mset10 _ _ _ _ _ _ _ _ _ _ HZ1.out) (((fs10 _ _ _ _ _ _ _ _ _ _ _ _).block _ (Nat.lt_of_lt_of_le lg (below_ald hb1).size) (by omega)).trans (((below_ald hb1).block _ lg).trans HG.out)) lg ((HX.out.new (below_ald hb1)).oth (fs10 _ _ _ _ _ _ _ _ _ _ _ _) (lt_of_block HX.out.by_)))
      | exact HH.out w1.heap.size _ _ _ _ _ _ _ _ _ _ _ _ _ _ _ _ (heap_alloc_new _ _) (blk_al' _ (((below_c' hb1).block _ lg).trans HG.out)) (Nat.lt_of_lt_of_le lg (below_c' hb1).size) ((HX.out.new (below_c' hb1)).al _)
end Go.Proofs.Ytjbkbhilcmiamaa
