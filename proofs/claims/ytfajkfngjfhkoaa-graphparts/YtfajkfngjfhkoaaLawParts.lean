/- GraphParts: its walk. -/
import Derived.Test.YtfajkfngjfhkoaaLawParts1
import Derived.Test.YtfajkfngjfhkoaaLawParts3
import Derived.Test.YtfajkfngjfhkoaaGrAwake
namespace Go.Proofs.Ytfajkfngjfhkoaa
open Go.RowKit
theorem chk_bdP (G : List Vx) : 0 ≤ chk G ∧ chk G ≤ 31 := by
  unfold chk
  repeat' split
  all_goals omega
theorem pb_new (w : World) (ao : Option Addr) (n cap : Nat) (stop : Int) : PB w (((w.alloc (.cells #[.slice ao n cap] 24)).alloc (.cells #[.int .i64 stop] 3)).alloc (.cells #[.bool false] 4)) w.heap.size ao n cap stop := by
  refine ⟨?_, ?_, ?_, b3 w _ _ _, Nat.le_refl _⟩
  · exact (Below.heap_alloc _ _ _ (by simp; omega)).trans ((Below.heap_alloc _ _ _ (by simp)).trans (heap_alloc_new _ _))
  · have := heap_alloc_new (w.alloc (.cells #[.slice ao n cap] 24)) (.cells #[.int .i64 stop] 3)
    rw [World.size_alloc] at this
    exact (Below.heap_alloc _ _ _ (by simp)).trans this
  · have := heap_alloc_new ((w.alloc (.cells #[.slice ao n cap] 24)).alloc (.cells #[.int .i64 stop] 3)) (.cells #[.bool false] 4)
    rw [World.size_alloc, World.size_alloc] at this
    exact this
theorem pe_new {w wx : World} {b0 n cap : Nat} {ao : Option Addr} {stop : Int} (h : PB w wx b0 ao n cap stop) :
    PE w (((((wx.alloc (.cells #[.int .i64 0] 3)).alloc (.cells #[] 2)).alloc (.cells #[.slice (some ⟨wx.heap.size + 1, 0, none⟩) 0 0] 43)).alloc (.cells #[] 45)).alloc (.cells #[.slice (some ⟨wx.heap.size + 1 + 1 + 1, 0, none⟩) 0 0] 37)) b0 wx.heap.size (wx.heap.size + 1 + 1) (wx.heap.size + 1 + 1 + 1 + 1) ao n cap stop 0 (some ⟨wx.heap.size + 1, 0, none⟩) 0 0 (some ⟨wx.heap.size + 1 + 1 + 1, 0, none⟩) 0 0 [] := by
  have hl := lt_of_block h.rb
  have hlo := h.lo
  obtain ⟨A, hA⟩ : ∃ A, wx.alloc (.cells #[.int .i64 0] 3) = A := ⟨_, rfl⟩
  have sA : A.heap.size = wx.heap.size + 1 := by rw [← hA]; simp
  have fA : A.heap[wx.heap.size]? = some (.cells #[.int .i64 0] 3 (0, 0)) := by rw [← hA]; exact heap_alloc_new _ _
  have bA : Below wx.heap.size wx A := by rw [← hA]; exact one_new _ _
  rw [hA]
  obtain ⟨B, hB⟩ : ∃ B, A.alloc (.cells #[] 2) = B := ⟨_, rfl⟩
  have sB : B.heap.size = wx.heap.size + 1 + 1 := by rw [← hB]; simp [sA]
  have oB : B.ownsRow w.heap.size 2 1 (.slice (some ⟨wx.heap.size + 1, 0, none⟩) 0 0) 0 [] := by
    have := own_empty (w := A) (base := w.heap.size) (t := 2) (size := 1) (by omega)
    rw [hB, sA] at this
    exact this
  have bB : Below A.heap.size A B := by rw [← hB]; exact one_new _ _
  rw [hB]
  obtain ⟨C, hC⟩ : ∃ C, B.alloc (.cells #[.slice (some ⟨wx.heap.size + 1, 0, none⟩) 0 0] 43) = C := ⟨_, rfl⟩
  have sC : C.heap.size = wx.heap.size + 1 + 1 + 1 := by rw [← hC]; simp [sB]
  have fC : C.heap[wx.heap.size + 1 + 1]? = some (.cells #[.slice (some ⟨wx.heap.size + 1, 0, none⟩) 0 0] 43 (0, 0)) := by
    have := heap_alloc_new B (.cells #[.slice (some ⟨wx.heap.size + 1, 0, none⟩) 0 0] 43)
    rw [hC, sB] at this
    exact this
  have bC : Below B.heap.size B C := by rw [← hC]; exact one_new _ _
  rw [hC]
  obtain ⟨D, hD⟩ : ∃ D, C.alloc (.cells #[] 45) = D := ⟨_, rfl⟩
  have sD : D.heap.size = wx.heap.size + 1 + 1 + 1 + 1 := by rw [← hD]; simp [sC]
  have oD : D.ownsRow w.heap.size 45 2 (.slice (some ⟨wx.heap.size + 1 + 1 + 1, 0, none⟩) 0 0) 0 [] := by
    have := own_empty (w := C) (base := w.heap.size) (t := 45) (size := 2) (by omega)
    rw [hD, sC] at this
    exact this
  have bD : Below C.heap.size C D := by rw [← hD]; exact one_new _ _
  rw [hD]
  obtain ⟨F, hF⟩ : ∃ F, D.alloc (.cells #[.slice (some ⟨wx.heap.size + 1 + 1 + 1, 0, none⟩) 0 0] 37) = F := ⟨_, rfl⟩
  have fF : F.heap[wx.heap.size + 1 + 1 + 1 + 1]? = some (.cells #[.slice (some ⟨wx.heap.size + 1 + 1 + 1, 0, none⟩) 0 0] 37 (0, 0)) := by
    have := heap_alloc_new D (.cells #[.slice (some ⟨wx.heap.size + 1 + 1 + 1, 0, none⟩) 0 0] 37)
    rw [hF, sD] at this
    exact this
  have bF : Below D.heap.size D F := by rw [← hF]; exact one_new _ _
  rw [hF]
  have k1 : Below wx.heap.size wx F := (((bA.trans (bB.mono (by omega))).trans (bC.mono (by omega))).trans (bD.mono (by omega))).trans (bF.mono (by omega))
  exact ⟨h.new k1, (bF.block _ (by omega)).trans ((bD.block _ (by omega)).trans ((bC.block _ (by omega)).trans ((bB.block _ (by omega)).trans fA))), (bF.block _ (by omega)).trans ((bD.block _ (by omega)).trans fC), fF, own_new (own_new (own_new oB bC) bD) bF, own_new oD bF, by omega, by omega, by omega⟩
theorem parts_end {w W : World} {ao : Option Addr} {n cap D : Nat} {stop : Int} {a : Act} (h : PB w W w.heap.size ao n cap stop) (hD : w.heap.size ≤ D) (hK : W.heap[D]? = some (.deferred (some []))) (hd : a.defers = [{ target := .collected D, args := #[] }]) (ht : a.tmps.getD 6 undef = .pointer (some ⟨w.heap.size + 1 + 1, 0, none⟩)) :
    bodyPostM Fence.wide 9 Try.prog Try.f4 (fun r w' => r = .returned (.bool true) ∧ Below w.heap.size w w') .ret a (W.setCell ⟨w.heap.size + 1 + 1, 0, none⟩ (.bool true)) := by
  have hne : D ≠ w.heap.size + 1 + 1 := fun e => by subst e; rw [h.rb] at hK; cases hK
  have hK' := (Below.heap_setCell W ⟨w.heap.size + 1 + 1, 0, none⟩ (.bool true) D hne).trans hK
  have hb : ((W.setCell ⟨w.heap.size + 1 + 1, 0, none⟩ (.bool true)).putObj D (.deferred none)).heap[w.heap.size + 1 + 1]? = some (.cells #[.bool true] 4 (0, 0)) := (World.putObj_heap_other (fun e => hne e.symm)).trans (cl_set1 h.rb _)
  have hc := (cl_one hb).1
  refine ret_marks1 (v := .bool true) ?_ hd hK' ⟨rfl, ?_⟩
  · simp only [Array.getD_eq_getD_getElem?] at ht
    simp [results, Try.results4, go_sem, ht, hc]
  · have l1 : Below w.heap.size w (W.setCell ⟨w.heap.size + 1 + 1, 0, none⟩ (.bool true)) := h.low.setCell (p := ⟨w.heap.size + 1 + 1, 0, none⟩) (by simp; omega) _
    exact l1.trans ((Fr.putObj (S := fun k => k = D) _ rfl).below l1.size (fun k hk => by omega))
set_option maxRecDepth 100000 in
set_option maxHeartbeats 4000000 in
theorem parts_good {w : World} {P : Nat → Prop} {ao : Option Addr} (G : List Vx) (cap : Nat) (parts pp stop : Int) (h : VxAt w P ao G) (hok : ∀ v ∈ G, v.ok) (hc : chk G = 0) (hp : parts < 1 ∧ pp = 1 ∨ 1 ≤ parts ∧ parts ≤ 100 ∧ pp = parts) :
    Calls Try.prog 4 #[.agg #[.slice ao G.length cap], .int .i64 parts, .int .i64 stop] w fun r w' => r = .returned (.bool true) ∧ Below w.heap.size w w' := by
  obtain ⟨hl, hr⟩ := rise_of hc
  have hE := evs_few hc hok
  have HG : Hid (∀ W, Below w.heap.size w W → VxAt W (fun k => k < w.heap.size) ao G) := fun W hb => (h.mono (Q := fun k => k < w.heap.size) (fun k hk _ => hk)).new hb
  have HOk : Hid (∀ v ∈ G, v.ok) := hok
  have HC : Hid _ := hc
  have HR : Hid (Rise (ids G)) := hr
  have hS0 := pb_new w ao G.length cap stop
  have HS0 : Hid _ := hS0
  have hp1 : 1 ≤ pp := by omega
  have hp2 : pp ≤ 100 := by omega
  clear h hok hc hr hS0
  refine calls_marks Try.func4 rfl ?_
  simp only [Try.ntmps4, List.size_toArray, List.length_cons, List.length_nil, Nat.reduceAdd, Nat.reduceSub, Array.replicate_succ, Array.replicate_zero, List.push_toArray, List.append_toArray, List.nil_append, List.cons_append]
  rcases hp with ⟨hpa, rfl⟩ | ⟨hpa, hpb, rfl⟩
  all_goals
    go_wp2_with (first
      | (go_at_call 11; refine (awake_any _).mono ?_; rintro r w1 ⟨rfl, hb1⟩; have hS1 := PB.new HS0.out hb1; have x1 := hS1.gc)
      | (go_at_call 13; refine (ref_any G cap (HG.out _ hS1.low) HOk.out (by omega)).mono ?_; rintro r w2 ⟨bo2, c2, rfl, hV2, hb2⟩; have hS2 := hS1.new hb2; have x2 := hS2.gc)
      | (go_at_call 14; refine (refcheck_any c2 hV2 (by omega) HOk.out).mono ?_; rintro r w3 ⟨rfl, hb3⟩; rw [HC.out]; have hS3 := hS2.new hb3; have x3 := hS3.gc))
    have HS3 : Hid _ := hS3
    clear hS1 hS2 hS3 x1 x2 x3 hV2 hb1 hb2 hb3 HS0
    refine parts_l1 G cap w.heap.size _ stop HG HOk hl HR hp1 hp2 HS3.out ?_
    intro wx u9 u10 u12 u13 u14 u35 u36 u37 u38 u39 u40 u41 u42 u43 u44 u45 u46 u47 u48 u49 u50 u51 u52 u53 u54 u55 u56 u57 u58 u59 u60 u61 u62 u63 u64 u65 u66 u67 u68 u69 u70 u71 u72 u73 u74 u75 u76 u77 u78 u79 u80 u81 u82 u83 u84 u85 u86 u87 u88 u89 u90 u91 u92 u93 u94 u95 u96 u97 u98 hX
    have hE0 := pe_new hX
    have HE0 : Hid _ := hE0
    have xg0 := hX.gc
    clear hE0
    go_wp2
    refine parts_l2 G cap w.heap.size _ _ _ stop HG HOk hl hE ⟨_, _, _, _, _, _, HE0.out⟩ ?_
    intro wy t19 t101 t102 t103 t104 t105 t106 t107 t108 t109 t110 t111 t112 t113 t114 t115 t116 t117 t118 t119 t120 t121 t122 t123 t124 t125 t126 t127 t128 t129 t130 t131 t132 t133 t134 t135 t136 t137 t138 t139 hY
    obtain ⟨o1, m1, c1, o2, m2, c2', hY⟩ := hY
    have yg := hY.pb.gc
    have HY : Hid _ := hY
    clear hX xg0 HE0 hY
    go_wp2_with (go_at_call 19; refine (all_fn G cap (HG.out _ HY.out.pb.low) HOk.out (by omega)).mono ?_; rintro r w7 ⟨Bs, fo, fc, rfl, hBs, hV7, hB7, hb7⟩)
    refine parts_range G cap fc w.heap.size _ _ _ Bs wy.heap.size m1 c1 m2 c2' stop HOk hl hE (HY.out.new hb7) hBs hV7 (fun k _ hk => hk) (lt_of_block HY.out.eb) ?_
    intro wz D nv hZ hnv hD hK
    have HZ : Hid _ := hZ
    have zg := hZ.pb.gc
    have zn := (cl_one hZ.nb).1
    have zw := (cl_one hZ.wb).1
    have zs := (cl_one hZ.pb.sb).1
    have hm1 : m1 = (evs G).length := by
      rcases hZ.wrow.2 with ⟨h1, h2⟩ | ⟨g, cp, cur, h1, _⟩
      · cases h1; exact h2.symm
      · cases h1; rfl
    subst hm1
    have HK : Hid _ := hK
    have HD : Hid (w.heap.size ≤ D) := Nat.le_trans (Nat.le_trans HY.out.pb.low.size hb7.size) hD
    clear hZ hBs hV7 hK yg hD
    by_cases hN : nv = (evs G).length
    · subst hN
      go_wp2_with (go_at_call 11; refine (awake_any _).mono ?_; rintro r w8 ⟨rfl, hb8⟩; have h8 := HZ.out.new hb8; have HZ8 : Hid _ := h8; have HB8 : Hid _ := hb8; have yg8 := h8.pb.gc; have yn8 := (cl_one h8.nb).1; have yw8 := (cl_one h8.wb).1; obtain ⟨yr8, yr9⟩ := cl_one h8.pb.rb; clear h8 hb8)
      exact parts_end HZ8.out.pb HD.out ((HB8.out.block D (lt_of_block HK.out)).trans HK.out) rfl rfl
    · obtain rfl : nv = stop := hnv.resolve_left hN
      have hb : (nv == ((evs G).length : Int)) = false := by simpa using hN
      go_wp2_with (go_at_call 11; refine (awake_any _).mono ?_; rintro r w8 ⟨rfl, hb8⟩; have h8 := HZ.out.new hb8; have HZ8 : Hid _ := h8; have HB8 : Hid _ := hb8; have yg8 := h8.pb.gc; have yn8 := (cl_one h8.nb).1; have yw8 := (cl_one h8.wb).1; have ys8 := (cl_one h8.pb.sb).1; obtain ⟨yr8, yr9⟩ := cl_one h8.pb.rb; clear h8 hb8)
      exact parts_end HZ8.out.pb HD.out ((HB8.out.block D (lt_of_block HK.out)).trans HK.out) rfl rfl
theorem parts_end0 {w W : World} {ao : Option Addr} {n cap : Nat} {stop : Int} {a : Act} (h : PB w W w.heap.size ao n cap stop) (hd : a.defers = []) (ht : a.tmps.getD 6 undef = .pointer (some ⟨w.heap.size + 1 + 1, 0, none⟩)) :
    bodyPostM Fence.wide 9 Try.prog Try.f4 (fun r w' => r = .returned (.bool true) ∧ Below w.heap.size w w') .ret a (W.setCell ⟨w.heap.size + 1 + 1, 0, none⟩ (.bool true)) := by
  have hc := (cl_one (cl_set1 h.rb (.bool true))).1
  refine ret_marks0 (v := .bool true) ?_ hd ⟨rfl, h.low.setCell (p := ⟨w.heap.size + 1 + 1, 0, none⟩) (by simp; omega) _⟩
  simp only [Array.getD_eq_getD_getElem?] at ht
  simp [results, Try.results4, go_sem, ht, hc]
set_option maxRecDepth 100000 in
set_option maxHeartbeats 1000000 in
theorem parts_stop {w : World} {P : Nat → Prop} {ao : Option Addr} (G : List Vx) (cap : Nat) (parts stop : Int) (h : VxAt w P ao G) (hok : ∀ v ∈ G, v.ok) (hl : G.length * 40 ≤ 140737488355328) (hz : chk G ≠ 0 ∨ chk G = 0 ∧ 100 < parts) :
    Calls Try.prog 4 #[.agg #[.slice ao G.length cap], .int .i64 parts, .int .i64 stop] w fun r w' => r = .returned (.bool true) ∧ Below w.heap.size w w' := by
  have HG : Hid (∀ W, Below w.heap.size w W → VxAt W P ao G) := fun W hb => h.new hb
  have HOk : Hid (∀ v ∈ G, v.ok) := hok
  obtain ⟨c, hc⟩ : ∃ c, chk G = c := ⟨_, rfl⟩
  rw [hc] at hz
  have hc1 : 0 ≤ c := by have := chk_bdP G; omega
  have hc2 : c ≤ 31 := by have := chk_bdP G; omega
  have HC : Hid _ := hc
  have hS0 := pb_new w ao G.length cap stop
  have HS0 : Hid _ := hS0
  clear h hok hc hS0
  refine calls_marks Try.func4 rfl ?_
  simp only [Try.ntmps4, List.size_toArray, List.length_cons, List.length_nil, Nat.reduceAdd, Nat.reduceSub, Array.replicate_succ, Array.replicate_zero, List.push_toArray, List.append_toArray, List.nil_append, List.cons_append]
  rcases hz with hz | ⟨rfl, hz⟩
  · have hz1 : 0 < c := by omega
    go_wp2_with (first
      | (go_at_call 11; first
        | (have := hS3; refine (awake_any _).mono ?_; rintro r w4 ⟨rfl, hb4⟩; have hS4 := hS3.new hb4; obtain ⟨y8, y9⟩ := cl_one hS4.rb)
        | (refine (awake_any _).mono ?_; rintro r w1 ⟨rfl, hb1⟩; have hS1 := PB.new HS0.out hb1; have x1 := hS1.gc))
      | (go_at_call 13; refine (ref_any G cap (HG.out _ hS1.low) HOk.out hl).mono ?_; rintro r w2 ⟨bo2, c2, rfl, hV2, hb2⟩; have hS2 := hS1.new hb2; have x2 := hS2.gc)
      | (go_at_call 14; refine (refcheck_any c2 hV2 (by omega) HOk.out).mono ?_; rintro r w3 ⟨rfl, hb3⟩; rw [HC.out]; have hS3 := hS2.new hb3; have x3 := hS3.gc))
    exact parts_end0 hS4 rfl rfl
  · go_wp2_with (first
      | (go_at_call 11; first
        | (have := hS3; refine (awake_any _).mono ?_; rintro r w4 ⟨rfl, hb4⟩; have hS4 := hS3.new hb4; obtain ⟨y8, y9⟩ := cl_one hS4.rb)
        | (refine (awake_any _).mono ?_; rintro r w1 ⟨rfl, hb1⟩; have hS1 := PB.new HS0.out hb1; have x1 := hS1.gc))
      | (go_at_call 13; refine (ref_any G cap (HG.out _ hS1.low) HOk.out hl).mono ?_; rintro r w2 ⟨bo2, c2, rfl, hV2, hb2⟩; have hS2 := hS1.new hb2; have x2 := hS2.gc)
      | (go_at_call 14; refine (refcheck_any c2 hV2 (by omega) HOk.out).mono ?_; rintro r w3 ⟨rfl, hb3⟩; rw [HC.out]; have hS3 := hS2.new hb3; have x3 := hS3.gc))
    exact parts_end0 hS4 rfl rfl
end Go.Proofs.Ytfajkfngjfhkoaa
