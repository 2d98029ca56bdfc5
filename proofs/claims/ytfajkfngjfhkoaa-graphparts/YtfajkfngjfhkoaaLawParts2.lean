/- GraphParts: its loops over the vertices and their edges: the two lists. -/
import Derived.Test.YtfajkfngjfhkoaaLawParts30
namespace Go.Proofs.Ytfajkfngjfhkoaa
open Go.RowKit
theorem sumE_evs (G : List Vx) (hl : G.length ≤ 256) (hok : ∀ v ∈ G, v.ok) : ∀ k, k ≤ G.length → sumE (G.take k) = (evs (G.take k)).length ∧ (evs (G.take k)).length ≤ k * 8796093022208
  | 0, _ => by simp [sumE, evs]
  | k + 1, h => by
    obtain ⟨ih, ib⟩ := sumE_evs G hl hok k (by omega)
    have hk := (hok _ (List.getElem_mem (show k < G.length by omega))).len
    have e : (evs (G.take (k + 1))).length = (evs (G.take k)).length + G[k].es.length := by rw [evs_snoc G k (by omega)]; simp
    refine ⟨?_, by omega⟩
    rw [sumE_snoc G k (by omega), ih, e]
    unfold wrap64
    omega
theorem evs_few {G : List Vx} (hc : chk G = 0) (hok : ∀ v ∈ G, v.ok) : (evs G).length ≤ 2048 := by
  obtain ⟨hl, _⟩ := rise_of hc
  obtain ⟨h1, _⟩ := sumE_evs G hl hok G.length (Nat.le_refl _)
  rw [List.take_length] at h1
  unfold chk at hc
  split at hc
  · cases hc
  · split at hc
    · cases hc
    · rename_i h2
      have : ¬ 2048 < sumE G := fun h => h2 (Or.inl h)
      omega
set_option maxRecDepth 100000 in
set_option maxHeartbeats 4000000 in
theorem parts_l2 {w wr : World} {ao : Option Addr} (G : List Vx) (cap b0 bn bw be : Nat) (stop : Int) {x0 x1 x2 x4 x5 x6 x7 x8 x9 x10 x11 x12 x13 x14 x19 x20 x21 x22 x23 x24 x25 x26 x27 x28 x29 x30 x31 x32 x33 x34 x35 x36 x37 x38 x39 x40 x41 x42 x43 x44 x45 x46 x47 x48 x49 x50 x51 x52 x53 x54 x55 x56 x57 x58 x59 x60 x61 x62 x63 x64 x65 x66 x67 x68 x69 x70 x71 x72 x73 x74 x75 x76 x77 x78 x79 x80 x81 x82 x83 x84 x85 x86 x87 x88 x89 x90 x91 x92 x93 x94 x95 x96 x97 x98 x99 x100 x101 x102 x103 x104 x105 x106 x107 x108 x109 x110 x111 x112 x113 x114 x115 x116 x117 x118 x119 x120 x121 x122 x123 x124 x125 x126 x127 x128 x129 x130 x131 x132 x133 x134 x135 x136 x137 x138 x139 x140 x141 x142 x143 x144 x145 x146 x147 x148 x149 x150 x151 x152 x153 x154 x155 x156 x157 x158 x159 x160 x161 x162 x163 x164 x165 x166 x167 x168 x169 x170 x171 x172 x173 x174 x175 x176 x177 x178 x179 x180 x181 x182 x183 x184 x185 x186 x187 : Value} {K : Act → World → Prop} {Q' : Exit → Act → World → Prop}
    (HG : Hid (∀ W, Below w.heap.size w W → VxAt W (fun k => k < w.heap.size) ao G)) (HOk : Hid (∀ v ∈ G, v.ok)) (hl : G.length ≤ 256) (hE : (evs G).length ≤ 2048) (hX : ∃ (o1 : Option Addr) (m1 c1 : Nat) (o2 : Option Addr) (m2 c2 : Nat), PE w wr b0 bn bw be ao G.length cap stop 0 o1 m1 c1 o2 m2 c2 [])
    (HC : ∀ (wx : World) (u19 u101 u102 u103 u104 u105 u106 u107 u108 u109 u110 u111 u112 u113 u114 u115 u116 u117 u118 u119 u120 u121 u122 u123 u124 u125 u126 u127 u128 u129 u130 u131 u132 u133 u134 u135 u136 u137 u138 u139 : Value), (∃ (o1 : Option Addr) (m1 c1 : Nat) (o2 : Option Addr) (m2 c2 : Nat), PE w wx b0 bn bw be ao G.length cap stop 0 o1 m1 c1 o2 m2 c2 (evs G)) → K ⟨(List.toArray (x0 :: x1 :: x2 :: (.pointer (some ⟨b0, 0, none⟩)) :: x4 :: x5 :: x6 :: x7 :: x8 :: x9 :: x10 :: x11 :: x12 :: x13 :: x14 :: (.pointer (some ⟨bn, 0, none⟩)) :: (.pointer (some ⟨bw, 0, none⟩)) :: (.pointer (some ⟨be, 0, none⟩)) :: (.int .i64 G.length) :: u19 :: x20 :: x21 :: x22 :: x23 :: x24 :: x25 :: x26 :: x27 :: x28 :: x29 :: x30 :: x31 :: x32 :: x33 :: x34 :: x35 :: x36 :: x37 :: x38 :: x39 :: x40 :: x41 :: x42 :: x43 :: x44 :: x45 :: x46 :: x47 :: x48 :: x49 :: x50 :: x51 :: x52 :: x53 :: x54 :: x55 :: x56 :: x57 :: x58 :: x59 :: x60 :: x61 :: x62 :: x63 :: x64 :: x65 :: x66 :: x67 :: x68 :: x69 :: x70 :: x71 :: x72 :: x73 :: x74 :: x75 :: x76 :: x77 :: x78 :: x79 :: x80 :: x81 :: x82 :: x83 :: x84 :: x85 :: x86 :: x87 :: x88 :: x89 :: x90 :: x91 :: x92 :: x93 :: x94 :: x95 :: x96 :: x97 :: x98 :: x99 :: x100 :: u101 :: u102 :: u103 :: u104 :: u105 :: u106 :: u107 :: u108 :: u109 :: u110 :: u111 :: u112 :: u113 :: u114 :: u115 :: u116 :: u117 :: u118 :: u119 :: u120 :: u121 :: u122 :: u123 :: u124 :: u125 :: u126 :: u127 :: u128 :: u129 :: u130 :: u131 :: u132 :: u133 :: u134 :: u135 :: u136 :: u137 :: u138 :: u139 :: x140 :: x141 :: x142 :: x143 :: x144 :: x145 :: x146 :: x147 :: x148 :: x149 :: x150 :: x151 :: x152 :: x153 :: x154 :: x155 :: x156 :: x157 :: x158 :: x159 :: x160 :: x161 :: x162 :: x163 :: x164 :: x165 :: x166 :: x167 :: x168 :: x169 :: x170 :: x171 :: x172 :: x173 :: x174 :: x175 :: x176 :: x177 :: x178 :: x179 :: x180 :: x181 :: x182 :: x183 :: x184 :: x185 :: x186 :: x187 :: [])), []⟩ wx) :
    Code.wp Try.prog ((Try.f4.body.bind (inBlk 4)).getD .skip) (Exit.inBlock 4 (Exit.then K Q')) ⟨(List.toArray (x0 :: x1 :: x2 :: (.pointer (some ⟨b0, 0, none⟩)) :: x4 :: x5 :: x6 :: x7 :: x8 :: x9 :: x10 :: x11 :: x12 :: x13 :: x14 :: (.pointer (some ⟨bn, 0, none⟩)) :: (.pointer (some ⟨bw, 0, none⟩)) :: (.pointer (some ⟨be, 0, none⟩)) :: (.int .i64 0) :: x19 :: x20 :: x21 :: x22 :: x23 :: x24 :: x25 :: x26 :: x27 :: x28 :: x29 :: x30 :: x31 :: x32 :: x33 :: x34 :: x35 :: x36 :: x37 :: x38 :: x39 :: x40 :: x41 :: x42 :: x43 :: x44 :: x45 :: x46 :: x47 :: x48 :: x49 :: x50 :: x51 :: x52 :: x53 :: x54 :: x55 :: x56 :: x57 :: x58 :: x59 :: x60 :: x61 :: x62 :: x63 :: x64 :: x65 :: x66 :: x67 :: x68 :: x69 :: x70 :: x71 :: x72 :: x73 :: x74 :: x75 :: x76 :: x77 :: x78 :: x79 :: x80 :: x81 :: x82 :: x83 :: x84 :: x85 :: x86 :: x87 :: x88 :: x89 :: x90 :: x91 :: x92 :: x93 :: x94 :: x95 :: x96 :: x97 :: x98 :: x99 :: x100 :: x101 :: x102 :: x103 :: x104 :: x105 :: x106 :: x107 :: x108 :: x109 :: x110 :: x111 :: x112 :: x113 :: x114 :: x115 :: x116 :: x117 :: x118 :: x119 :: x120 :: x121 :: x122 :: x123 :: x124 :: x125 :: x126 :: x127 :: x128 :: x129 :: x130 :: x131 :: x132 :: x133 :: x134 :: x135 :: x136 :: x137 :: x138 :: x139 :: x140 :: x141 :: x142 :: x143 :: x144 :: x145 :: x146 :: x147 :: x148 :: x149 :: x150 :: x151 :: x152 :: x153 :: x154 :: x155 :: x156 :: x157 :: x158 :: x159 :: x160 :: x161 :: x162 :: x163 :: x164 :: x165 :: x166 :: x167 :: x168 :: x169 :: x170 :: x171 :: x172 :: x173 :: x174 :: x175 :: x176 :: x177 :: x178 :: x179 :: x180 :: x181 :: x182 :: x183 :: x184 :: x185 :: x186 :: x187 :: [])), []⟩ wr := by
  have HH : Hid _ := HC
  have HX : Hid _ := hX
  clear HC hX
  refine wp_mono (Q := Exit.inBlock 4 (Exit.then K (fun _ _ _ => False))) ?_ inBlock_false
  conv => arg 2; whnf
  go_loopw [18] (fun p wr => ∃ k : Nat, k ≤ G.length ∧ p = .int .i64 k ∧ Hid (∃ (o1 : Option Addr) (m1 c1 : Nat) (o2 : Option Addr) (m2 c2 : Nat), PE w wr b0 bn bw be ao G.length cap stop 0 o1 m1 c1 o2 m2 c2 (evs (G.take k)))) (fun p _ => G.length - (intOf p).toNat)
  case atStart => exact ⟨0, Nat.zero_le _, rfl, HX.out⟩
  case round =>
    obtain ⟨k, hk, rfl, HP⟩ := hrel
    clear HX
    obtain ⟨o1, m1, c1, o2, m2, c2, hX⟩ := HP.out
    have xg := hX.pb.gc
    by_cases hlt : k < G.length
    · obtain ⟨gb, goff, rfl, hgb, hgc⟩ := HG.out _ hX.pb.low (by omega)
      obtain ⟨eo, ec, g0, g1, g2, g3⟩ := hgc k hlt
      have HI : Hid (∀ j, evs (G.take k) ++ (G[k].es.take j).map (fun e => (G[k].id, e)) <+: evs G) := evs_in G k hlt
      have HS : Hid (evs (G.take (k + 1)) = evs (G.take k) ++ G[k].es.map fun e => (G[k].id, e)) := evs_snoc G k hlt
      have hlen : G[k].es.length ≤ 8796093022208 := (HOk.out _ (List.getElem_mem hlt)).len
      have HV : Hid (∀ W, Below w.heap.size w W → ∃ eo ec, W.cell? ⟨gb, goff + k * 3, none⟩ = some (.int .i64 G[k].id) ∧ W.cell? ⟨gb, goff + k * 3 + 2, none⟩ = some (.slice eo G[k].es.length ec) ∧ EdAt W (fun k => k < w.heap.size) eo G[k].es) := fun W hb => by
        obtain ⟨gb', goff', e, _, hgc'⟩ := HG.out W hb (by omega)
        cases e
        obtain ⟨eo, ec, g0, g1, g2, g3⟩ := hgc' k hlt
        exact ⟨eo, ec, g0, g2, g3⟩
      generalize G[k] = y at g0 g1 g2 g3 HI HS hlen HV
      have HPk : Hid (∃ E0, evs (G.take k) = E0) := ⟨_, rfl⟩
      clear hgc hX g0 g1 g2 g3
      go_wp2
      go_loopw [19] (fun q wx => ∃ j : Nat, j ≤ y.es.length ∧ q = .int .i64 j ∧ Hid (∃ (o1 : Option Addr) (m1 c1 : Nat) (o2 : Option Addr) (m2 c2 : Nat), PE w wx b0 bn bw be (some ⟨gb, goff, none⟩) G.length cap stop 0 o1 m1 c1 o2 m2 c2 (evs (G.take k) ++ (y.es.take j).map (fun e => (y.id, e))))) (fun q _ => y.es.length - (intOf q).toNat)
      case atStart => exact ⟨0, Nat.zero_le _, rfl, by simp only [List.take_zero, List.map_nil, List.append_nil]; exact HP⟩
      case round =>
        obtain ⟨j, hj, rfl, HPj⟩ := hrel
        obtain ⟨p1, q1, d1, p2, q2, d2, hX⟩ := HPj.out
        have xg := hX.pb.gc
        obtain ⟨eo', ec', g0, g2, g3⟩ := HV.out _ hX.pb.low
        by_cases hjl : j < y.es.length
        · obtain ⟨eb, eoff, rfl, heb, hce⟩ := g3 (by omega)
          obtain ⟨e0, e1⟩ := hce j hjl
          have HT : Hid ((y.es.take (j + 1)).map (fun e => (y.id, e)) = (y.es.take j).map (fun e => (y.id, e)) ++ [(y.id, y.es[j])]) := take_snoc_map hjl y.id
          have hEl : (evs (G.take k) ++ (y.es.take j).map (fun e => (y.id, e))).length ≤ 2048 := Nat.le_trans (HI.out j).length_le hE
          generalize y.es[j] = z at e0 e1 HT
          have HXj : Hid _ := hX
          have E0 : Hid _ := e0
          have E1 : Hid _ := e1
          clear hX g3 hce e0 e1
          go_upto_region 30 with fail
          refine parts_r30 (x := (y.id, z)) HXj.out hlt hjl hEl hgb heb g0 g2 E0.out E1.out ?_
          intro wx r1 s1 t1 r2 s2 t2 v119 v120 v121 v122 v123 v124 v125 v126 v127 v128 v129 v130 v131 v132 v133 v134 v135 v136 v137 v138 v139 hX'
          have HX' : Hid _ := hX'
          clear hX' xg g0 g2
          go_wp2
          go_roundw
          case rel => exact ⟨j + 1, by omega, by go_num, r1, s1, t1, r2, s2, t2, by rw [HT.out, ← List.append_assoc]; exact HX'.out⟩
          case measure => simp [intOf]; omega
        · obtain rfl : j = y.es.length := by omega
          clear hX
          go_wp2
          go_roundw
          case rel => exact ⟨k + 1, by omega, by go_num, by rw [HS.out]; have := HPj.out; rw [List.take_length] at this; exact this⟩
          case measure => simp [intOf]; omega
    · obtain rfl : k = G.length := by omega
      have HP2 : Hid (∃ (o1 : Option Addr) (m1 c1 : Nat) (o2 : Option Addr) (m2 c2 : Nat), PE w wr b0 bn bw be ao G.length cap stop 0 o1 m1 c1 o2 m2 c2 (evs G)) := by
        have := HP.out
        rw [List.take_length] at this
        exact this
      clear hX
      go_wp2
      exact HH.out _ _ _ _ _ _ _ _ _ _ _ _ _ _ _ _ _ _ _ _ _ _ _ _ _ _ _ _ _ _ _ _ _ _ _ _ _ _ _ _ _ HP2.out
end Go.Proofs.Ytfajkfngjfhkoaa
