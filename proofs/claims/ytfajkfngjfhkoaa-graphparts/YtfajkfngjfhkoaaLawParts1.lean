/- GraphParts: its first loops, over the partitions and the vertices of each. -/
import Derived.Test.YtfajkfngjfhkoaaPartsM
namespace Go.Proofs.Ytfajkfngjfhkoaa
open Go.RowKit
set_option maxRecDepth 100000 in
set_option maxHeartbeats 4000000 in
theorem parts_l1 {w wr : World} {P : Nat → Prop} {ao : Option Addr} (G : List Vx) (cap b0 : Nat) (pp stop : Int) {x0 x2 x4 x5 x9 x10 x11 x12 x13 x14 x15 x16 x17 x18 x19 x20 x21 x22 x23 x24 x25 x26 x27 x28 x29 x30 x31 x32 x33 x34 x35 x36 x37 x38 x39 x40 x41 x42 x43 x44 x45 x46 x47 x48 x49 x50 x51 x52 x53 x54 x55 x56 x57 x58 x59 x60 x61 x62 x63 x64 x65 x66 x67 x68 x69 x70 x71 x72 x73 x74 x75 x76 x77 x78 x79 x80 x81 x82 x83 x84 x85 x86 x87 x88 x89 x90 x91 x92 x93 x94 x95 x96 x97 x98 x99 x100 x101 x102 x103 x104 x105 x106 x107 x108 x109 x110 x111 x112 x113 x114 x115 x116 x117 x118 x119 x120 x121 x122 x123 x124 x125 x126 x127 x128 x129 x130 x131 x132 x133 x134 x135 x136 x137 x138 x139 x140 x141 x142 x143 x144 x145 x146 x147 x148 x149 x150 x151 x152 x153 x154 x155 x156 x157 x158 x159 x160 x161 x162 x163 x164 x165 x166 x167 x168 x169 x170 x171 x172 x173 x174 x175 x176 x177 x178 x179 x180 x181 x182 x183 x184 x185 x186 x187 : Value} {K : Act → World → Prop} {Q' : Exit → Act → World → Prop}
    (HG : Hid (∀ W, Below w.heap.size w W → VxAt W P ao G)) (HOk : Hid (∀ v ∈ G, v.ok)) (hl : G.length ≤ 256) (HR : Hid (Rise (ids G))) (hp1 : 1 ≤ pp) (hp2 : pp ≤ 100) (hX : PB w wr b0 ao G.length cap stop)
    (HC : ∀ (wx : World) (u9 u10 u12 u13 u14 u35 u36 u37 u38 u39 u40 u41 u42 u43 u44 u45 u46 u47 u48 u49 u50 u51 u52 u53 u54 u55 u56 u57 u58 u59 u60 u61 u62 u63 u64 u65 u66 u67 u68 u69 u70 u71 u72 u73 u74 u75 u76 u77 u78 u79 u80 u81 u82 u83 u84 u85 u86 u87 u88 u89 u90 u91 u92 u93 u94 u95 u96 u97 u98 : Value), PB w wx b0 ao G.length cap stop → K ⟨(List.toArray (x0 :: (.int .i64 pp) :: x2 :: (.pointer (some ⟨b0, 0, none⟩)) :: x4 :: x5 :: (.pointer (some ⟨b0 + 1 + 1, 0, none⟩)) :: (.int .i64 G.length) :: (.int .i64 pp) :: u9 :: u10 :: x11 :: u12 :: u13 :: u14 :: x15 :: x16 :: x17 :: x18 :: x19 :: x20 :: x21 :: x22 :: x23 :: x24 :: x25 :: x26 :: x27 :: x28 :: x29 :: x30 :: x31 :: x32 :: x33 :: x34 :: u35 :: u36 :: u37 :: u38 :: u39 :: u40 :: u41 :: u42 :: u43 :: u44 :: u45 :: u46 :: u47 :: u48 :: u49 :: u50 :: u51 :: u52 :: u53 :: u54 :: u55 :: u56 :: u57 :: u58 :: u59 :: u60 :: u61 :: u62 :: u63 :: u64 :: u65 :: u66 :: u67 :: u68 :: u69 :: u70 :: u71 :: u72 :: u73 :: u74 :: u75 :: u76 :: u77 :: u78 :: u79 :: u80 :: u81 :: u82 :: u83 :: u84 :: u85 :: u86 :: u87 :: u88 :: u89 :: u90 :: u91 :: u92 :: u93 :: u94 :: u95 :: u96 :: u97 :: u98 :: x99 :: x100 :: x101 :: x102 :: x103 :: x104 :: x105 :: x106 :: x107 :: x108 :: x109 :: x110 :: x111 :: x112 :: x113 :: x114 :: x115 :: x116 :: x117 :: x118 :: x119 :: x120 :: x121 :: x122 :: x123 :: x124 :: x125 :: x126 :: x127 :: x128 :: x129 :: x130 :: x131 :: x132 :: x133 :: x134 :: x135 :: x136 :: x137 :: x138 :: x139 :: x140 :: x141 :: x142 :: x143 :: x144 :: x145 :: x146 :: x147 :: x148 :: x149 :: x150 :: x151 :: x152 :: x153 :: x154 :: x155 :: x156 :: x157 :: x158 :: x159 :: x160 :: x161 :: x162 :: x163 :: x164 :: x165 :: x166 :: x167 :: x168 :: x169 :: x170 :: x171 :: x172 :: x173 :: x174 :: x175 :: x176 :: x177 :: x178 :: x179 :: x180 :: x181 :: x182 :: x183 :: x184 :: x185 :: x186 :: x187 :: [])), []⟩ wx) :
    Code.wp Try.prog ((Try.f4.body.bind (inBlk 0)).getD .skip) (Exit.inBlock 0 (Exit.then K Q')) ⟨(List.toArray (x0 :: (.int .i64 pp) :: x2 :: (.pointer (some ⟨b0, 0, none⟩)) :: x4 :: x5 :: (.pointer (some ⟨b0 + 1 + 1, 0, none⟩)) :: (.int .i64 0) :: (.int .i64 0) :: x9 :: x10 :: x11 :: x12 :: x13 :: x14 :: x15 :: x16 :: x17 :: x18 :: x19 :: x20 :: x21 :: x22 :: x23 :: x24 :: x25 :: x26 :: x27 :: x28 :: x29 :: x30 :: x31 :: x32 :: x33 :: x34 :: x35 :: x36 :: x37 :: x38 :: x39 :: x40 :: x41 :: x42 :: x43 :: x44 :: x45 :: x46 :: x47 :: x48 :: x49 :: x50 :: x51 :: x52 :: x53 :: x54 :: x55 :: x56 :: x57 :: x58 :: x59 :: x60 :: x61 :: x62 :: x63 :: x64 :: x65 :: x66 :: x67 :: x68 :: x69 :: x70 :: x71 :: x72 :: x73 :: x74 :: x75 :: x76 :: x77 :: x78 :: x79 :: x80 :: x81 :: x82 :: x83 :: x84 :: x85 :: x86 :: x87 :: x88 :: x89 :: x90 :: x91 :: x92 :: x93 :: x94 :: x95 :: x96 :: x97 :: x98 :: x99 :: x100 :: x101 :: x102 :: x103 :: x104 :: x105 :: x106 :: x107 :: x108 :: x109 :: x110 :: x111 :: x112 :: x113 :: x114 :: x115 :: x116 :: x117 :: x118 :: x119 :: x120 :: x121 :: x122 :: x123 :: x124 :: x125 :: x126 :: x127 :: x128 :: x129 :: x130 :: x131 :: x132 :: x133 :: x134 :: x135 :: x136 :: x137 :: x138 :: x139 :: x140 :: x141 :: x142 :: x143 :: x144 :: x145 :: x146 :: x147 :: x148 :: x149 :: x150 :: x151 :: x152 :: x153 :: x154 :: x155 :: x156 :: x157 :: x158 :: x159 :: x160 :: x161 :: x162 :: x163 :: x164 :: x165 :: x166 :: x167 :: x168 :: x169 :: x170 :: x171 :: x172 :: x173 :: x174 :: x175 :: x176 :: x177 :: x178 :: x179 :: x180 :: x181 :: x182 :: x183 :: x184 :: x185 :: x186 :: x187 :: [])), []⟩ wr := by
  have HH : Hid _ := HC
  have HX : Hid _ := hX
  have hpp : I64 pp := by unfold I64; omega
  clear HC hX
  refine wp_mono (Q := Exit.inBlock 0 (Exit.then K (fun _ _ _ => False))) ?_ inBlock_false
  conv => arg 2; whnf
  go_loopw [7, 8] (fun s p wr => ∃ k : Nat, (k : Int) ≤ pp ∧ p = .int .i64 k ∧ s = .int .i64 (cntLt G pp k) ∧ PB w wr b0 ao G.length cap stop) (fun _ p _ => (pp - intOf p).toNat)
  case atStart => exact ⟨0, by omega, rfl, by rw [cntLt_zero G pp hp1]; rfl, HX.out⟩
  case round =>
    obtain ⟨k, hk, rfl, rfl, hX⟩ := hrel
    clear HX
    by_cases hlt : (k : Int) < pp
    · have HPs : Hid (cntLt G pp (k + 1) = cntLt G pp k + (partG G pp k).length) := cntLt_succ G pp k
      have hcl : cntLt G pp k + (partG G pp k).length ≤ 256 := by have := cntLt_le G pp (k + 1); have := HPs.out; omega
      have HRp : Hid (Rise (ids (partG G pp k))) := rise_part pp k HR.out
      have HF : Hid (∀ j (hj : j < (partG G pp k).length), ∃ i, ∃ h : i < G.length, G[i] = (partG G pp k)[j] ∧ findN (ids G) (partG G pp k)[j].id = i ∧ foundB (ids G) (partG G pp k)[j].id = true ∧ partN (partG G pp k)[j].id pp = k) := fun j hj => part_find HR.out hj
      have HOf : Hid (∀ W, Below w.heap.size w W → Calls Try.prog 15 #[.agg #[.slice ao G.length cap], .int .i64 k, .int .i64 pp] W fun r w' => ∃ bo c, r = .returned (.slice bo (partG G pp k).length c) ∧ HdAt w' bo (partG G pp k) ∧ Below W.heap.size W w') := fun W hb => ofL_any G cap k pp (HG.out W hb) HOk.out (by omega) hpp
      generalize partG G pp k = L at HPs hcl HRp HF HOf
      have xg := hX.gc
      have HX : Hid _ := hX
      obtain ⟨cn, hcn⟩ : ∃ cn, cntLt G pp k = cn := ⟨_, rfl⟩
      rw [hcn] at HPs hcl ⊢
      clear hX hcn
      go_wp2_with (go_at_call 15; refine (HOf.out _ HX.out.low).mono ?_; rintro r w1 ⟨bo, c1, rfl, hH1, hb1⟩; have hX1 := HX.out.new hb1)
      go_loopw [7, 9, 10, 45] (fun s la so i wx => ∃ (j : Nat) (lv : Int), j ≤ L.length ∧ i = .int .i64 j ∧ s = .int .i64 (cn + j : Nat) ∧ la = .int .i64 lv ∧ so = .bool (decide (0 < j)) ∧ Hid (∀ h : 0 < j ∧ j - 1 < L.length, lv = (L[j - 1]'h.2).id) ∧ HdAt wx bo L ∧ PB w wx b0 ao G.length cap stop) (fun _ _ _ i _ => L.length - (intOf i).toNat)
      case atStart => exact ⟨0, 0, Nat.zero_le _, rfl, rfl, rfl, rfl, fun h => absurd h.1 (by omega), hH1, hX1⟩
      case round =>
        obtain ⟨j, lv, hj, rfl, rfl, rfl, rfl, HLv, hH, hX⟩ := hrel
        clear hH1 hX1 hb1 xg HOf HX
        by_cases hjl : j < L.length
        · obtain ⟨b, rfl, hc⟩ := hH (by omega)
          obtain ⟨eo, ec, c0, c1, c2⟩ := hc j hjl
          obtain ⟨i, hi, hGi, hfi, hfo, hpn⟩ := HF.out j hjl
          obtain ⟨gb, goff, rfl, -, hgc⟩ := HG.out _ hX.low (by omega)
          obtain ⟨geo, gec, g0, g1, g2, -⟩ := hgc i hi
          rw [hGi] at g1
          have HFd : Hid (∀ W, Below w.heap.size w W → Calls Try.prog 16 #[.agg #[.slice (some ⟨gb, goff, none⟩) G.length cap], .int .i64 L[j].id] W fun r w' => r = .returned (.tuple #[.int .i64 i, .bool true]) ∧ Below W.heap.size W w') := fun W hb => by
            have := find_any cap L[j].id (HG.out W hb) hl HR.out
            rw [hfi, hfo] at this
            exact this
          have HPt : Hid (∀ W, Calls Try.prog 17 #[.int .i64 L[j].id, .int .i64 pp] W fun r w' => r = .returned (.int .i64 k) ∧ w' = W) := fun W => by
            have := part_any L[j].id pp W hpp
            rw [hpn] at this
            exact this
          have HRt : Hid (∀ W, Calls Try.prog 18 #[.int .i64 L[j].id, .int .i64 pp] W fun r w' => r = .returned (.int .i64 k) ∧ w' = W) := fun W => by
            have := refpart_any L[j].id pp W hpp
            rw [hpn] at this
            exact this
          have HNx : Hid (∀ h : 0 < j + 1 ∧ j + 1 - 1 < L.length, L[j].id = (L[j + 1 - 1]'h.2).id) := fun _ => rfl
          have HLt : Hid (0 < j → lv < L[j].id) := fun h0 => by
            rw [HLv.out ⟨h0, by omega⟩, ← ids_get L (j - 1) (by omega), ← ids_get L j hjl]
            exact HRp.out.lt j (j - 1) (by rw [ids_len]; exact hjl) (by omega)
          have HHd : Hid (HdAt wr (some ⟨b, 0, none⟩) L) := hH
          have HX : Hid _ := hX
          have xg := hX.gc
          have lg := lt_cell g1
          have lb := lt_of_block hX.gb
          generalize L[j] = y at c0 c1 c2 g1 HFd HPt HRt HNx HLt
          clear hc hgc hGi hfi hfo hpn hH hX g0 g2
          have hX1 := HX.out.new (one_new wr (.cells #[.int .i64 y.id, .int .i64 y.val, .slice eo y.es.length ec] 39))
          have xg1 := hX1.gc
          have HX1 : Hid _ := hX1
          clear hX1
          go_upto_region 16 with (go_at_call 16; refine (HFd.out _ HX1.out.low).mono ?_; rintro r w2 ⟨rfl, hb2⟩)
          have hb3 : Below wr.heap.size wr w2 := (one_new wr _).trans (hb2.mono (by rw [World.size_alloc]; omega))
          have hq := (hb2.block wr.heap.size (by rw [World.size_alloc]; omega)).trans (heap_alloc_new _ _)
          obtain ⟨q0, q1, q2⟩ := box3 hq
          have hX2 := HX.out.new hb3
          have xg2 := hX2.gc
          have g1' := (hb3.cell (p := ⟨gb, goff + i * 3 + 1, none⟩) lg).trans g1
          have HH2 : Hid (HdAt w2 (some ⟨b, 0, none⟩) L) := HdAt.new HHd.out hb3
          have HX2 : Hid _ := hX2
          clear hq hX2 hb2 hb3 c0 c1 c2 g1 xg xg1 lb lg HX1
          obtain ⟨q, hqq⟩ : ∃ q, wr.heap.size = q := ⟨_, rfl⟩
          rw [hqq] at q0 q1 q2 ⊢
          clear hqq
          have y3 : w2.cell? ⟨b0, 0, none⟩ = some (.slice (some ⟨gb, goff, none⟩) G.length cap) ∧ w2.cell? ⟨gb, goff + i * 3 + 1, none⟩ = some (.int .i64 y.val) ∧ w2.cell? ⟨q, 0, none⟩ = some (.int .i64 y.id) ∧ w2.cell? ⟨q, 1, none⟩ = some (.int .i64 y.val) := ⟨xg2, g1', q0, q1⟩
          by_cases h0 : 0 < j
          · have hd : decide (0 < j) = true := by simpa using h0
            have hlv : lv < y.id := HLt.out h0
            go_quiet ((first
              | (go_at_call 17; exact Calls.quiet_of_same (HPt.out _))
              | (go_at_call 18; exact Calls.quiet_of_same (HRt.out _))))
            go_wp2
            go_roundw
            case rel => exact ⟨j + 1, y.id, by omega, by go_num, by go_num, rfl, by simp, HNx.out, HdAt.new HH2.out (bel_drewN (Below.refl _ _) _), HX2.out.new (bel_drewN (Below.refl _ _) _)⟩
            case measure => simp [intOf]; omega
          · have hd : decide (0 < j) = false := by simpa using h0
            go_quiet ((first
              | (go_at_call 17; exact Calls.quiet_of_same (HPt.out _))
              | (go_at_call 18; exact Calls.quiet_of_same (HRt.out _))))
            go_wp2
            go_roundw
            case rel => exact ⟨j + 1, y.id, by omega, by go_num, by go_num, rfl, by simp, HNx.out, HdAt.new HH2.out (bel_drewN (Below.refl _ _) _), HX2.out.new (bel_drewN (Below.refl _ _) _)⟩
            case measure => simp [intOf]; omega
        · obtain rfl : j = L.length := by omega
          have HX : Hid _ := hX
          clear hX hH
          go_wp2
          go_roundw
          case rel => exact ⟨k + 1, by omega, by go_num, by rw [HPs.out], HX.out⟩
          case measure => simp [intOf]; omega
    · have hkp : (k : Int) = pp := by omega
      have hcn := cntLt_all G pp k hp1 hkp
      rw [hcn, hkp]
      have HX : Hid _ := hX
      clear hX hcn
      go_wp2
      exact HH.out _ _ _ _ _ _ _ _ _ _ _ _ _ _ _ _ _ _ _ _ _ _ _ _ _ _ _ _ _ _ _ _ _ _ _ _ _ _ _ _ _ _ _ _ _ _ _ _ _ _ _ _ _ _ _ _ _ _ _ _ _ _ _ _ _ _ _ _ _ _ HX.out
end Go.Proofs.Ytfajkfngjfhkoaa
