/- Region 30 of GraphParts: an edge more in both lists, whatever order its operations take. -/
import Derived.Test.YtfajkfngjfhkoaaPartsE
namespace Go.Proofs.Ytfajkfngjfhkoaa
open Go.RowKit
theorem c_one {W : World} {b : Nat} {t : TypeId} {u : Value} (h : W.heap[b]? = some (.cells #[u] t (0, 0))) : ∀ (j : Nat) (v : Value), [u][j]? = some v → W.cell? ((⟨b, 0, none⟩ : Addr).add j) = some v := by
  intro j v hv
  match j, hv with
  | 0, hv => simpa [Addr.add, World.cell?, h] using hv
theorem c_two {W : World} {b : Nat} {t : TypeId} {u y : Value} (h : W.heap[b]? = some (.cells #[u, y] t (0, 0))) : ∀ (j : Nat) (v : Value), [u, y][j]? = some v → W.cell? ((⟨b, 0, none⟩ : Addr).add j) = some v := by
  intro j v hv
  match j, hv with
  | 0, hv => simpa [Addr.add, World.cell?, h] using hv
  | 1, hv => simpa [Addr.add, World.cell?, h] using hv
theorem s30_fr {W W' : World} {T : Nat → Prop} {b0 bw be n cap m1 c1 m2 c2 gb goff eb eoff ln ec i j : Nat} {o1 o2 : Option Addr} {x : Int × Ed} (f : Fr W W' T) (t0 : ¬ T b0) (t1 : ¬ T bw) (t2 : ¬ T be) (t3 : ¬ T gb) (t4 : ¬ T eb)
    (h : W.cell? ⟨b0, 0, none⟩ = some (.slice (some ⟨gb, goff, none⟩) n cap) ∧ W.cell? ⟨bw, 0, none⟩ = some (.slice o1 m1 c1) ∧ W.cell? ⟨be, 0, none⟩ = some (.slice o2 m2 c2) ∧ W.cell? ⟨gb, goff + i * 3, none⟩ = some (.int .i64 x.1) ∧ W.cell? ⟨gb, goff + i * 3 + 2, none⟩ = some (.slice (some ⟨eb, eoff, none⟩) ln ec) ∧ W.cell? ⟨eb, eoff + j * 2, none⟩ = some (.int .i64 x.2.t) ∧ W.cell? ⟨eb, eoff + j * 2 + 1, none⟩ = some (.int .i64 x.2.w)) : W'.cell? ⟨b0, 0, none⟩ = some (.slice (some ⟨gb, goff, none⟩) n cap) ∧ W'.cell? ⟨bw, 0, none⟩ = some (.slice o1 m1 c1) ∧ W'.cell? ⟨be, 0, none⟩ = some (.slice o2 m2 c2) ∧ W'.cell? ⟨gb, goff + i * 3, none⟩ = some (.int .i64 x.1) ∧ W'.cell? ⟨gb, goff + i * 3 + 2, none⟩ = some (.slice (some ⟨eb, eoff, none⟩) ln ec) ∧ W'.cell? ⟨eb, eoff + j * 2, none⟩ = some (.int .i64 x.2.t) ∧ W'.cell? ⟨eb, eoff + j * 2 + 1, none⟩ = some (.int .i64 x.2.w) :=
  ⟨fr_cell f t0 h.1, fr_cell f t1 h.2.1, fr_cell f t2 h.2.2.1, fr_cell f t3 h.2.2.2.1, fr_cell f t3 h.2.2.2.2.1, fr_cell f t4 h.2.2.2.2.2.1, fr_cell f t4 h.2.2.2.2.2.2⟩
set_option linter.unusedSimpArgs false in
set_option maxRecDepth 100000 in
set_option maxHeartbeats 4000000 in
theorem parts_r30 {w wr : World} {b0 bn bw be n cap m1 c1 m2 c2 gb goff eb eoff ln ec i j : Nat} {o1 o2 : Option Addr} {stop nv : Int} {E : List (Int × Ed)} {x : Int × Ed} {x0 x1 x2 x4 x5 x6 x7 x8 x9 x10 x11 x12 x13 x14 x15 x20 x21 x22 x23 x24 x25 x26 x27 x28 x29 x30 x31 x32 x33 x34 x35 x36 x37 x38 x39 x40 x41 x42 x43 x44 x45 x46 x47 x48 x49 x50 x51 x52 x53 x54 x55 x56 x57 x58 x59 x60 x61 x62 x63 x64 x65 x66 x67 x68 x69 x70 x71 x72 x73 x74 x75 x76 x77 x78 x79 x80 x81 x82 x83 x84 x85 x86 x87 x88 x89 x90 x91 x92 x93 x94 x95 x96 x97 x98 x99 x100 x101 x102 x103 x104 x105 x106 x107 x108 x109 x110 x111 x112 x113 x114 x115 x116 x117 x118 x119 x120 x121 x122 x123 x124 x125 x126 x127 x128 x129 x130 x131 x132 x133 x134 x135 x136 x137 x138 x139 x140 x141 x142 x143 x144 x145 x146 x147 x148 x149 x150 x151 x152 x153 x154 x155 x156 x157 x158 x159 x160 x161 x162 x163 x164 x165 x166 x167 x168 x169 x170 x171 x172 x173 x174 x175 x176 x177 x178 x179 x180 x181 x182 x183 x184 x185 x186 x187 : Value} {K : Act → World → Prop} {Q' : Exit → Act → World → Prop}
    (hX : PE w wr b0 bn bw be (some ⟨gb, goff, none⟩) n cap stop nv o1 m1 c1 o2 m2 c2 E) (hi : i < n) (hj : j < ln) (hE : E.length ≤ 2048) (hgb : gb < w.heap.size) (heb : eb < w.heap.size)
    (g0 : wr.cell? ⟨gb, goff + i * 3, none⟩ = some (.int .i64 x.1)) (g2 : wr.cell? ⟨gb, goff + i * 3 + 2, none⟩ = some (.slice (some ⟨eb, eoff, none⟩) ln ec)) (e0 : wr.cell? ⟨eb, eoff + j * 2, none⟩ = some (.int .i64 x.2.t)) (e1 : wr.cell? ⟨eb, eoff + j * 2 + 1, none⟩ = some (.int .i64 x.2.w))
    (HC : ∀ (wx : World) (p1 : Option Addr) (k1 d1 : Nat) (p2 : Option Addr) (k2 d2 : Nat) (u119 u120 u121 u122 u123 u124 u125 u126 u127 u128 u129 u130 u131 u132 u133 u134 u135 u136 u137 u138 u139 : Value), PE w wx b0 bn bw be (some ⟨gb, goff, none⟩) n cap stop nv p1 k1 d1 p2 k2 d2 (E ++ [x]) → K ⟨(List.toArray (x0 :: x1 :: x2 :: (.pointer (some ⟨b0, 0, none⟩)) :: x4 :: x5 :: x6 :: x7 :: x8 :: x9 :: x10 :: x11 :: x12 :: x13 :: x14 :: x15 :: (.pointer (some ⟨bw, 0, none⟩)) :: (.pointer (some ⟨be, 0, none⟩)) :: (.int .i64 i) :: (.int .i64 j) :: x20 :: x21 :: x22 :: x23 :: x24 :: x25 :: x26 :: x27 :: x28 :: x29 :: x30 :: x31 :: x32 :: x33 :: x34 :: x35 :: x36 :: x37 :: x38 :: x39 :: x40 :: x41 :: x42 :: x43 :: x44 :: x45 :: x46 :: x47 :: x48 :: x49 :: x50 :: x51 :: x52 :: x53 :: x54 :: x55 :: x56 :: x57 :: x58 :: x59 :: x60 :: x61 :: x62 :: x63 :: x64 :: x65 :: x66 :: x67 :: x68 :: x69 :: x70 :: x71 :: x72 :: x73 :: x74 :: x75 :: x76 :: x77 :: x78 :: x79 :: x80 :: x81 :: x82 :: x83 :: x84 :: x85 :: x86 :: x87 :: x88 :: x89 :: x90 :: x91 :: x92 :: x93 :: x94 :: x95 :: x96 :: x97 :: x98 :: x99 :: x100 :: x101 :: x102 :: x103 :: x104 :: x105 :: x106 :: x107 :: x108 :: x109 :: x110 :: x111 :: x112 :: x113 :: x114 :: x115 :: x116 :: x117 :: x118 :: u119 :: u120 :: u121 :: u122 :: u123 :: u124 :: u125 :: u126 :: u127 :: u128 :: u129 :: u130 :: u131 :: u132 :: u133 :: u134 :: u135 :: u136 :: u137 :: u138 :: u139 :: x140 :: x141 :: x142 :: x143 :: x144 :: x145 :: x146 :: x147 :: x148 :: x149 :: x150 :: x151 :: x152 :: x153 :: x154 :: x155 :: x156 :: x157 :: x158 :: x159 :: x160 :: x161 :: x162 :: x163 :: x164 :: x165 :: x166 :: x167 :: x168 :: x169 :: x170 :: x171 :: x172 :: x173 :: x174 :: x175 :: x176 :: x177 :: x178 :: x179 :: x180 :: x181 :: x182 :: x183 :: x184 :: x185 :: x186 :: x187 :: [])), []⟩ wx) :
    Code.wp Try.prog ((Try.f4.body.bind (inBlk 7)).getD .skip) (Exit.inBlock 7 (Exit.then K Q')) ⟨(List.toArray (x0 :: x1 :: x2 :: (.pointer (some ⟨b0, 0, none⟩)) :: x4 :: x5 :: x6 :: x7 :: x8 :: x9 :: x10 :: x11 :: x12 :: x13 :: x14 :: x15 :: (.pointer (some ⟨bw, 0, none⟩)) :: (.pointer (some ⟨be, 0, none⟩)) :: (.int .i64 i) :: (.int .i64 j) :: x20 :: x21 :: x22 :: x23 :: x24 :: x25 :: x26 :: x27 :: x28 :: x29 :: x30 :: x31 :: x32 :: x33 :: x34 :: x35 :: x36 :: x37 :: x38 :: x39 :: x40 :: x41 :: x42 :: x43 :: x44 :: x45 :: x46 :: x47 :: x48 :: x49 :: x50 :: x51 :: x52 :: x53 :: x54 :: x55 :: x56 :: x57 :: x58 :: x59 :: x60 :: x61 :: x62 :: x63 :: x64 :: x65 :: x66 :: x67 :: x68 :: x69 :: x70 :: x71 :: x72 :: x73 :: x74 :: x75 :: x76 :: x77 :: x78 :: x79 :: x80 :: x81 :: x82 :: x83 :: x84 :: x85 :: x86 :: x87 :: x88 :: x89 :: x90 :: x91 :: x92 :: x93 :: x94 :: x95 :: x96 :: x97 :: x98 :: x99 :: x100 :: x101 :: x102 :: x103 :: x104 :: x105 :: x106 :: x107 :: x108 :: x109 :: x110 :: x111 :: x112 :: x113 :: x114 :: x115 :: x116 :: x117 :: x118 :: x119 :: x120 :: x121 :: x122 :: x123 :: x124 :: x125 :: x126 :: x127 :: x128 :: x129 :: x130 :: x131 :: x132 :: x133 :: x134 :: x135 :: x136 :: x137 :: x138 :: x139 :: x140 :: x141 :: x142 :: x143 :: x144 :: x145 :: x146 :: x147 :: x148 :: x149 :: x150 :: x151 :: x152 :: x153 :: x154 :: x155 :: x156 :: x157 :: x158 :: x159 :: x160 :: x161 :: x162 :: x163 :: x164 :: x165 :: x166 :: x167 :: x168 :: x169 :: x170 :: x171 :: x172 :: x173 :: x174 :: x175 :: x176 :: x177 :: x178 :: x179 :: x180 :: x181 :: x182 :: x183 :: x184 :: x185 :: x186 :: x187 :: [])), []⟩ wr := by
  obtain ⟨ii, hii, hy0, hy1, hy2⟩ := info_parts infoI64
  obtain ⟨ie, hie, hz0, hz1, hz2⟩ := info_parts infoEdge
  refine wp_mono (Q := Exit.inBlock 7 (Exit.then K (fun _ _ _ => False))) ?_ inBlock_false
  conv => arg 2; whnf
  have HH : Hid _ := HC
  have HX : Hid _ := hX
  have hS0 : wr.drew.cell? ⟨b0, 0, none⟩ = some (.slice (some ⟨gb, goff, none⟩) n cap) ∧ wr.drew.cell? ⟨bw, 0, none⟩ = some (.slice o1 m1 c1) ∧ wr.drew.cell? ⟨be, 0, none⟩ = some (.slice o2 m2 c2) ∧ wr.drew.cell? ⟨gb, goff + i * 3, none⟩ = some (.int .i64 x.1) ∧ wr.drew.cell? ⟨gb, goff + i * 3 + 2, none⟩ = some (.slice (some ⟨eb, eoff, none⟩) ln ec) ∧ wr.drew.cell? ⟨eb, eoff + j * 2, none⟩ = some (.int .i64 x.2.t) ∧ wr.drew.cell? ⟨eb, eoff + j * 2 + 1, none⟩ = some (.int .i64 x.2.w) := ⟨(cl_one hX.pb.gb).1, (cl_one hX.wb).1, (cl_one hX.eb).1, g0, g2, e0, e1⟩
  have N1 : Hid ((Value.slice o1 m1 c1).ownBlock ≠ some b0 ∧ (Value.slice o1 m1 c1).ownBlock ≠ some bw ∧ (Value.slice o1 m1 c1).ownBlock ≠ some be ∧ (Value.slice o1 m1 c1).ownBlock ≠ some gb ∧ (Value.slice o1 m1 c1).ownBlock ≠ some eb) := ⟨own_ne hX.wrow hX.pb.gb (by decide), own_ne hX.wrow hX.wb (by decide), own_ne hX.wrow hX.eb (by decide), fun e => by have := (hX.wrow.lt _ e).1; omega, fun e => by have := (hX.wrow.lt _ e).1; omega⟩
  have N2 : Hid ((Value.slice o2 m2 c2).ownBlock ≠ some b0 ∧ (Value.slice o2 m2 c2).ownBlock ≠ some bw ∧ (Value.slice o2 m2 c2).ownBlock ≠ some be ∧ (Value.slice o2 m2 c2).ownBlock ≠ some gb ∧ (Value.slice o2 m2 c2).ownBlock ≠ some eb) := ⟨own_ne hX.erow hX.pb.gb (by decide), own_ne hX.erow hX.wb (by decide), own_ne hX.erow hX.eb (by decide), fun e => by have := (hX.erow.lt _ e).1; omega, fun e => by have := (hX.erow.lt _ e).1; omega⟩
  clear HC hX g0 g2 e0 e1
  refine wp_region_L [21, 22] (fun w' => w'.cell? ⟨b0, 0, none⟩ = some (.slice (some ⟨gb, goff, none⟩) n cap) ∧ w'.cell? ⟨bw, 0, none⟩ = some (.slice o1 m1 c1) ∧ w'.cell? ⟨be, 0, none⟩ = some (.slice o2 m2 c2) ∧ w'.cell? ⟨gb, goff + i * 3, none⟩ = some (.int .i64 x.1) ∧ w'.cell? ⟨gb, goff + i * 3 + 2, none⟩ = some (.slice (some ⟨eb, eoff, none⟩) ln ec) ∧ w'.cell? ⟨eb, eoff + j * 2, none⟩ = some (.int .i64 x.2.t) ∧ w'.cell? ⟨eb, eoff + j * 2 + 1, none⟩ = some (.int .i64 x.2.w)) (by kernel_rfl) ?_
  refine wpAnyL_take (i := 0) 119 (v := .slice o1 m1 c1) rfl rfl (by kernel_rfl) (by kernel_rfl) (by kernel_rfl) (by kernel_rfl) (by kernel_rfl) (by kernel_rfl) (fun _ _ _ h => h) hS0 (by rfl) (by intro w' hSw; (try dsimp only at hSw); go_simp <;> with_reducible rfl) ?_
  simp only [Act.put, List.setIfInBounds_toArray, List.set_cons_zero, List.set_cons_succ]
  refine wpAnyL_take (i := 1) 120 (v := .pointer (some ⟨b0, 0, none⟩)) rfl rfl (by kernel_rfl) (by kernel_rfl) (by kernel_rfl) (by kernel_rfl) (by kernel_rfl) (by kernel_rfl) (fun _ _ _ h => h) hS0 (by rfl) (by intro w' hSw; (try dsimp only at hSw); go_simp <;> with_reducible rfl) ?_
  simp only [Act.put, List.setIfInBounds_toArray, List.set_cons_zero, List.set_cons_succ]
  refine wpAnyL_take (i := 2) 121 (v := .slice (some ⟨gb, goff, none⟩) n cap) rfl rfl (by kernel_rfl) (by kernel_rfl) (by kernel_rfl) (by kernel_rfl) (by kernel_rfl) (by kernel_rfl) (fun _ _ _ h => h) hS0 (by rfl) (by intro w' hSw; (try dsimp only at hSw); go_simp <;> with_reducible rfl) ?_
  simp only [Act.put, List.setIfInBounds_toArray, List.set_cons_zero, List.set_cons_succ]
  refine wpAnyL_take (i := 3) 122 (v := .int .i64 i) rfl rfl (by kernel_rfl) (by kernel_rfl) (by kernel_rfl) (by kernel_rfl) (by kernel_rfl) (by kernel_rfl) (fun _ _ _ h => h) hS0 (by rfl) (by intro w' hSw; (try dsimp only at hSw); go_simp <;> with_reducible rfl) ?_
  simp only [Act.put, List.setIfInBounds_toArray, List.set_cons_zero, List.set_cons_succ]
  refine wpAnyL_take (i := 4) 123 (v := .pointer (some ⟨gb, goff + i * 3, none⟩)) rfl rfl (by kernel_rfl) (by kernel_rfl) (by kernel_rfl) (by kernel_rfl) (by kernel_rfl) (by kernel_rfl) (fun _ _ _ h => h) hS0 (by rfl) (by intro w' hSw; (try dsimp only at hSw); go_simp <;> with_reducible rfl) ?_
  simp only [Act.put, List.setIfInBounds_toArray, List.set_cons_zero, List.set_cons_succ]
  refine wpAnyL_take (i := 5) 124 (v := .pointer (some ⟨gb, goff + i * 3, none⟩)) rfl rfl (by kernel_rfl) (by kernel_rfl) (by kernel_rfl) (by kernel_rfl) (by kernel_rfl) (by kernel_rfl) (fun _ _ _ h => h) hS0 (by rfl) (by intro w' hSw; (try dsimp only at hSw); go_simp <;> with_reducible rfl) ?_
  simp only [Act.put, List.setIfInBounds_toArray, List.set_cons_zero, List.set_cons_succ]
  refine wpAnyL_take (i := 6) 125 (v := .int .i64 x.1) rfl rfl (by kernel_rfl) (by kernel_rfl) (by kernel_rfl) (by kernel_rfl) (by kernel_rfl) (by kernel_rfl) (fun _ _ _ h => h) hS0 (by rfl) (by intro w' hSw; (try dsimp only at hSw); go_simp <;> with_reducible rfl) ?_
  simp only [Act.put, List.setIfInBounds_toArray, List.set_cons_zero, List.set_cons_succ]
  refine wpAnyL_take (i := 9) 128 (v := .slice o2 m2 c2) rfl rfl (by kernel_rfl) (by kernel_rfl) (by kernel_rfl) (by kernel_rfl) (by kernel_rfl) (by kernel_rfl) (fun _ _ _ h => h) hS0 (by rfl) (by intro w' hSw; (try dsimp only at hSw); go_simp <;> with_reducible rfl) ?_
  simp only [Act.put, List.setIfInBounds_toArray, List.set_cons_zero, List.set_cons_succ]
  refine wpAnyL_take (i := 10) 129 (v := .pointer (some ⟨b0, 0, none⟩)) rfl rfl (by kernel_rfl) (by kernel_rfl) (by kernel_rfl) (by kernel_rfl) (by kernel_rfl) (by kernel_rfl) (fun _ _ _ h => h) hS0 (by rfl) (by intro w' hSw; (try dsimp only at hSw); go_simp <;> with_reducible rfl) ?_
  simp only [Act.put, List.setIfInBounds_toArray, List.set_cons_zero, List.set_cons_succ]
  refine wpAnyL_take (i := 11) 130 (v := .slice (some ⟨gb, goff, none⟩) n cap) rfl rfl (by kernel_rfl) (by kernel_rfl) (by kernel_rfl) (by kernel_rfl) (by kernel_rfl) (by kernel_rfl) (fun _ _ _ h => h) hS0 (by rfl) (by intro w' hSw; (try dsimp only at hSw); go_simp <;> with_reducible rfl) ?_
  simp only [Act.put, List.setIfInBounds_toArray, List.set_cons_zero, List.set_cons_succ]
  refine wpAnyL_take (i := 12) 131 (v := .int .i64 i) rfl rfl (by kernel_rfl) (by kernel_rfl) (by kernel_rfl) (by kernel_rfl) (by kernel_rfl) (by kernel_rfl) (fun _ _ _ h => h) hS0 (by rfl) (by intro w' hSw; (try dsimp only at hSw); go_simp <;> with_reducible rfl) ?_
  simp only [Act.put, List.setIfInBounds_toArray, List.set_cons_zero, List.set_cons_succ]
  refine wpAnyL_take (i := 13) 132 (v := .pointer (some ⟨gb, goff + i * 3, none⟩)) rfl rfl (by kernel_rfl) (by kernel_rfl) (by kernel_rfl) (by kernel_rfl) (by kernel_rfl) (by kernel_rfl) (fun _ _ _ h => h) hS0 (by rfl) (by intro w' hSw; (try dsimp only at hSw); go_simp <;> with_reducible rfl) ?_
  simp only [Act.put, List.setIfInBounds_toArray, List.set_cons_zero, List.set_cons_succ]
  refine wpAnyL_take (i := 14) 133 (v := .pointer (some ⟨gb, goff + i * 3 + 2, none⟩)) rfl rfl (by kernel_rfl) (by kernel_rfl) (by kernel_rfl) (by kernel_rfl) (by kernel_rfl) (by kernel_rfl) (fun _ _ _ h => h) hS0 (by rfl) (by intro w' hSw; (try dsimp only at hSw); go_simp <;> with_reducible rfl) ?_
  simp only [Act.put, List.setIfInBounds_toArray, List.set_cons_zero, List.set_cons_succ]
  refine wpAnyL_take (i := 15) 134 (v := .slice (some ⟨eb, eoff, none⟩) ln ec) rfl rfl (by kernel_rfl) (by kernel_rfl) (by kernel_rfl) (by kernel_rfl) (by kernel_rfl) (by kernel_rfl) (fun _ _ _ h => h) hS0 (by rfl) (by intro w' hSw; (try dsimp only at hSw); go_simp <;> with_reducible rfl) ?_
  simp only [Act.put, List.setIfInBounds_toArray, List.set_cons_zero, List.set_cons_succ]
  refine wpAnyL_take (i := 16) 135 (v := .int .i64 j) rfl rfl (by kernel_rfl) (by kernel_rfl) (by kernel_rfl) (by kernel_rfl) (by kernel_rfl) (by kernel_rfl) (fun _ _ _ h => h) hS0 (by rfl) (by intro w' hSw; (try dsimp only at hSw); go_simp <;> with_reducible rfl) ?_
  simp only [Act.put, List.setIfInBounds_toArray, List.set_cons_zero, List.set_cons_succ]
  refine wpAnyL_take (i := 17) 136 (v := .pointer (some ⟨eb, eoff + j * 2, none⟩)) rfl rfl (by kernel_rfl) (by kernel_rfl) (by kernel_rfl) (by kernel_rfl) (by kernel_rfl) (by kernel_rfl) (fun _ _ _ h => h) hS0 (by rfl) (by intro w' hSw; (try dsimp only at hSw); go_simp <;> with_reducible rfl) ?_
  simp only [Act.put, List.setIfInBounds_toArray, List.set_cons_zero, List.set_cons_succ]
  refine wpAnyL_take (i := 18) 137 (v := .agg #[.int .i64 x.2.t, .int .i64 x.2.w]) rfl rfl (by kernel_rfl) (by kernel_rfl) (by kernel_rfl) (by kernel_rfl) (by kernel_rfl) (by kernel_rfl) (fun _ _ _ h => h) hS0 (by rfl) (by intro w' hSw; (try dsimp only at hSw); go_simp <;> with_reducible rfl) ?_
  simp only [Act.put, List.setIfInBounds_toArray, List.set_cons_zero, List.set_cons_succ]
  refine wpAnyL_two (i := 7) (j := 19) (by kernel_rfl) rfl rfl ?_ ?_
  · intro Kb hKb
    go_simp
    have hS1 := s30_fr (Fr.alloc wr.drew (.cells #[.int .i64 x.1] 2) (fun _ => False)) (fun h => h) (fun h => h) (fun h => h) (fun h => h) (fun h => h) hS0
    refine hKb.out _ _ (fun _ => hS1) ?_
    clear hKb Kb
    refine wpAnyL_two (i := 8) (j := 19) (by kernel_rfl) rfl rfl ?_ ?_
    · intro Ka hKa
      have bel0 : Below wr.heap.size wr (wr.drew.alloc (.cells #[.int .i64 x.1] 2)) := ((Below.refl _ wr).drew).alloc (Nat.le_refl _) _
      have hSx := hS1
      refine step_append_own rfl (.tmp 119) (.tmp 126) 43 rfl w.heap.size 2 ii (.int .i64 0) 1 8 Try.underlying43 hii hy0 hy1 hy2 rfl (by decide) (.slice o1 m1 c1) _ _ (by simp [Act.eval]) (own_new HX.out.wrow bel0) ⟨wr.heap.size, 0, none⟩ 1 1 [.int .i64 x.1] (by simp [Act.eval]) rfl (c_one (heap_alloc_new wr.drew (.cells #[.int .i64 x.1] 2))) (by simp [Value.oneCell']) (by unfold maxLen; omega) (by omega) (Nat.le_trans HX.out.pb.low.size bel0.size) ?_
      intro v1 w1 own1 gr1 at1
      obtain ⟨p1, k1, d1, rfl⟩ := own_any own1
      have f2 : Fr _ w1 (fun k => (Value.slice o1 m1 c1).ownBlock = some k) := Fr.grown gr1 (fun k hk => hk)
      have hS2 := s30_fr f2 N1.out.1 N1.out.2.1 N1.out.2.2.1 N1.out.2.2.2.1 N1.out.2.2.2.2 hSx
      have own2w := own_kept (own_new HX.out.erow bel0) f2 (fun k hk => own_ne2 (own_new HX.out.wrow bel0) (own_new HX.out.erow bel0) (by decide) k hk)
      refine hKa.out _ _ (fun _ => hS2) ?_
      clear hKa Ka
      simp only [Act.put, List.setIfInBounds_toArray, List.set_cons_zero, List.set_cons_succ]
      refine wpAnyL_one (i := 19) (by kernel_rfl) rfl (fun Kc hKc => ?_)
      go_simp
      have hS3 := s30_fr (Fr.alloc w1 (.cells #[.int .i64 x.2.t, .int .i64 x.2.w] 45) (fun _ => False)) (fun h => h) (fun h => h) (fun h => h) (fun h => h) (fun h => h) hS2
      refine hKc.out _ _ (fun _ => hS3) ?_
      clear hKc Kc
      refine wpAnyL_one (i := 20) (by kernel_rfl) rfl (fun K4 hK4 => ?_)
      have hX1 : Below w1.heap.size w1 _ := one_new w1 (.cells #[.int .i64 x.2.t, .int .i64 x.2.w] 45)
      have own2' := own_new own2w hX1
      refine step_append_own rfl (.tmp 128) (.tmp 138) 37 rfl w.heap.size 45 ie (.agg #[.int .i64 0, .int .i64 0]) 2 16 Try.underlying37 hie hz0 hz1 hz2 rfl (by decide) (.slice o2 m2 c2) _ _ (by simp [Act.eval]) own2' ⟨w1.heap.size, 0, none⟩ 1 1 [.int .i64 x.2.t, .int .i64 x.2.w] (by simp [Act.eval]) rfl (c_two (heap_alloc_new w1 (.cells #[.int .i64 x.2.t, .int .i64 x.2.w] 45))) (by intro u hu; simp at hu; rcases hu with rfl | rfl <;> rfl) (by unfold maxLen; omega) (by omega) (Nat.le_trans (Nat.le_trans HX.out.pb.low.size (Nat.le_trans bel0.size gr1.size)) hX1.size) ?_
      intro v2 w2 own2 gr2 at2
      obtain ⟨p2, k2, d2, rfl⟩ := own_any own2
      have f4 : Fr _ w2 (fun k => (Value.slice o2 m2 c2).ownBlock = some k) := Fr.grown gr2 (fun k hk => hk)
      have hS4 := s30_fr f4 N2.out.1 N2.out.2.1 N2.out.2.2.1 N2.out.2.2.2.1 N2.out.2.2.2.2 hS3
      refine hK4.out _ _ (fun _ => hS4) ?_
      clear hK4 K4
      simp only [Act.put, List.setIfInBounds_toArray, List.set_cons_zero, List.set_cons_succ]
      have fw : Fr wr w2 (fun k => (Value.slice o1 m1 c1).ownBlock = some k ∨ (Value.slice o2 m2 c2).ownBlock = some k) := ((((Fr.ofBelow bel0 (fun _ => False)).mono (fun _ _ h => h.elim)).trans (Fr.grown gr1 (fun k hk => hk)) (fun _ _ h => .inl h)).trans (Fr.ofBelow hX1 (fun _ => False)) (fun _ _ h => h.elim)).trans f4 (fun _ _ h => .inr h)
      have q4 := (fw.block bw (lt_of_block HX.out.wb) (fun h => h.elim N1.out.2.1 N2.out.2.1)).trans HX.out.wb
      have q5 := (fw.block be (lt_of_block HX.out.eb) (fun h => h.elim N1.out.2.2.1 N2.out.2.2.1)).trans HX.out.eb
      have HP : Hid _ := HX.out.push bel0 gr1 own1 hX1 gr2 own2
      obtain ⟨y4, y5⟩ := cl_one q4
      have hlt3 := HX.out.h3
      obtain ⟨y6, y7⟩ := cl_one ((Below.heap_setCell w2 ⟨bw, 0, none⟩ (.slice p1 k1 d1) be (by show be ≠ bw; omega)).trans q5)
      clear q4 q5 fw f4 hS4 hS3 own2 gr2 at2 own2' own1 gr1 at1
      refine wpAnyL_one (i := 21) (by kernel_rfl) rfl (fun K5 hK5 => ?_)
      go_simp
      refine hK5.out _ _ (fun h => absurd h (Bool.eq_false_iff.1 (by kernel_rfl))) ?_
      clear hK5 K5
      refine wpAnyL_one (i := 22) (by kernel_rfl) rfl (fun K6 hK6 => ?_)
      go_simp
      refine hK6.out _ _ (fun h => absurd h (Bool.eq_false_iff.1 (by kernel_rfl))) ?_
      clear hK6 K6
      refine wpAnyL_done (by kernel_rfl) ?_ _
      exact HH.out _ _ _ _ _ _ _ _ _ _ _ _ _ _ _ _ _ _ _ _ _ _ _ _ _ _ _ _ HP.out
    · intro Kc hKc
      go_simp
      have hS1' := s30_fr (Fr.alloc (wr.drew.alloc (.cells #[.int .i64 x.1] 2)) (.cells #[.int .i64 x.2.t, .int .i64 x.2.w] 45) (fun _ => False)) (fun h => h) (fun h => h) (fun h => h) (fun h => h) (fun h => h) hS1
      refine hKc.out _ _ (fun _ => hS1') ?_
      clear hKc Kc
      refine wpAnyL_one (i := 8) (by kernel_rfl) rfl (fun Ka hKa => ?_)
      have bel0 : Below wr.heap.size wr ((wr.drew.alloc (.cells #[.int .i64 x.1] 2)).alloc (.cells #[.int .i64 x.2.t, .int .i64 x.2.w] 45)) := (((Below.refl _ wr).drew).alloc (Nat.le_refl _) _).alloc (by rw [World.size_alloc]; exact Nat.le_succ _) _
      have hSx := hS1'
      have nA : ((wr.drew.alloc (.cells #[.int .i64 x.1] 2)).alloc (.cells #[.int .i64 x.2.t, .int .i64 x.2.w] 45)).heap[wr.heap.size]? = some (.cells #[.int .i64 x.1] 2) := (Below.heap_alloc (wr.drew.alloc (.cells #[.int .i64 x.1] 2)) (.cells #[.int .i64 x.2.t, .int .i64 x.2.w] 45) _ (by rw [World.size_alloc]; exact Nat.lt_succ_self _)).trans (heap_alloc_new wr.drew (.cells #[.int .i64 x.1] 2))
      have nB : ((wr.drew.alloc (.cells #[.int .i64 x.1] 2)).alloc (.cells #[.int .i64 x.2.t, .int .i64 x.2.w] 45)).heap[wr.heap.size + 1]? = some (.cells #[.int .i64 x.2.t, .int .i64 x.2.w] 45) := by
        have := heap_alloc_new (wr.drew.alloc (.cells #[.int .i64 x.1] 2)) (.cells #[.int .i64 x.2.t, .int .i64 x.2.w] 45)
        rw [World.size_alloc] at this
        exact this
      refine step_append_own rfl (.tmp 119) (.tmp 126) 43 rfl w.heap.size 2 ii (.int .i64 0) 1 8 Try.underlying43 hii hy0 hy1 hy2 rfl (by decide) (.slice o1 m1 c1) _ _ (by simp [Act.eval]) (own_new HX.out.wrow bel0) ⟨wr.heap.size, 0, none⟩ 1 1 [.int .i64 x.1] (by simp [Act.eval]) rfl (c_one nA) (by simp [Value.oneCell']) (by unfold maxLen; omega) (by omega) (Nat.le_trans HX.out.pb.low.size bel0.size) ?_
      intro v1 w1 own1 gr1 at1
      obtain ⟨p1, k1, d1, rfl⟩ := own_any own1
      have f2 : Fr _ w1 (fun k => (Value.slice o1 m1 c1).ownBlock = some k) := Fr.grown gr1 (fun k hk => hk)
      have hS2 := s30_fr f2 N1.out.1 N1.out.2.1 N1.out.2.2.1 N1.out.2.2.2.1 N1.out.2.2.2.2 hSx
      have own2w := own_kept (own_new HX.out.erow bel0) f2 (fun k hk => own_ne2 (own_new HX.out.wrow bel0) (own_new HX.out.erow bel0) (by decide) k hk)
      refine hKa.out _ _ (fun _ => hS2) ?_
      clear hKa Ka
      simp only [Act.put, List.setIfInBounds_toArray, List.set_cons_zero, List.set_cons_succ]
      have hS3 := hS2
      have nB1 := (f2.block _ (lt_of_block nB) (fun e => by have := (HX.out.wrow.lt _ e).2; omega)).trans nB
      refine wpAnyL_one (i := 20) (by kernel_rfl) rfl (fun K4 hK4 => ?_)
      have hX1 : Below w1.heap.size w1 _ := Below.refl _ _
      have own2' := own_new own2w hX1
      refine step_append_own rfl (.tmp 128) (.tmp 138) 37 rfl w.heap.size 45 ie (.agg #[.int .i64 0, .int .i64 0]) 2 16 Try.underlying37 hie hz0 hz1 hz2 rfl (by decide) (.slice o2 m2 c2) _ _ (by simp [Act.eval]) own2' ⟨wr.heap.size + 1, 0, none⟩ 1 1 [.int .i64 x.2.t, .int .i64 x.2.w] (by simp [Act.eval]) rfl (c_two nB1) (by intro u hu; simp at hu; rcases hu with rfl | rfl <;> rfl) (by unfold maxLen; omega) (by omega) (Nat.le_trans (Nat.le_trans HX.out.pb.low.size (Nat.le_trans bel0.size gr1.size)) hX1.size) ?_
      intro v2 w2 own2 gr2 at2
      obtain ⟨p2, k2, d2, rfl⟩ := own_any own2
      have f4 : Fr _ w2 (fun k => (Value.slice o2 m2 c2).ownBlock = some k) := Fr.grown gr2 (fun k hk => hk)
      have hS4 := s30_fr f4 N2.out.1 N2.out.2.1 N2.out.2.2.1 N2.out.2.2.2.1 N2.out.2.2.2.2 hS3
      refine hK4.out _ _ (fun _ => hS4) ?_
      clear hK4 K4
      simp only [Act.put, List.setIfInBounds_toArray, List.set_cons_zero, List.set_cons_succ]
      have fw : Fr wr w2 (fun k => (Value.slice o1 m1 c1).ownBlock = some k ∨ (Value.slice o2 m2 c2).ownBlock = some k) := ((((Fr.ofBelow bel0 (fun _ => False)).mono (fun _ _ h => h.elim)).trans (Fr.grown gr1 (fun k hk => hk)) (fun _ _ h => .inl h)).trans (Fr.ofBelow hX1 (fun _ => False)) (fun _ _ h => h.elim)).trans f4 (fun _ _ h => .inr h)
      have q4 := (fw.block bw (lt_of_block HX.out.wb) (fun h => h.elim N1.out.2.1 N2.out.2.1)).trans HX.out.wb
      have q5 := (fw.block be (lt_of_block HX.out.eb) (fun h => h.elim N1.out.2.2.1 N2.out.2.2.1)).trans HX.out.eb
      have HP : Hid _ := HX.out.push bel0 gr1 own1 hX1 gr2 own2
      obtain ⟨y4, y5⟩ := cl_one q4
      have hlt3 := HX.out.h3
      obtain ⟨y6, y7⟩ := cl_one ((Below.heap_setCell w2 ⟨bw, 0, none⟩ (.slice p1 k1 d1) be (by show be ≠ bw; omega)).trans q5)
      clear q4 q5 fw f4 hS4 hS3 own2 gr2 at2 own2' own1 gr1 at1
      refine wpAnyL_one (i := 21) (by kernel_rfl) rfl (fun K5 hK5 => ?_)
      go_simp
      refine hK5.out _ _ (fun h => absurd h (Bool.eq_false_iff.1 (by kernel_rfl))) ?_
      clear hK5 K5
      refine wpAnyL_one (i := 22) (by kernel_rfl) rfl (fun K6 hK6 => ?_)
      go_simp
      refine hK6.out _ _ (fun h => absurd h (Bool.eq_false_iff.1 (by kernel_rfl))) ?_
      clear hK6 K6
      refine wpAnyL_done (by kernel_rfl) ?_ _
      exact HH.out _ _ _ _ _ _ _ _ _ _ _ _ _ _ _ _ _ _ _ _ _ _ _ _ _ _ _ _ HP.out
  · intro Kb hKb
    go_simp
    have hS1 := s30_fr (Fr.alloc wr.drew (.cells #[.int .i64 x.2.t, .int .i64 x.2.w] 45) (fun _ => False)) (fun h => h) (fun h => h) (fun h => h) (fun h => h) (fun h => h) hS0
    refine hKb.out _ _ (fun _ => hS1) ?_
    clear hKb Kb
    refine wpAnyL_one (i := 7) (by kernel_rfl) rfl (fun Kc hKc => ?_)
    go_simp
    have hS1' := s30_fr (Fr.alloc (wr.drew.alloc (.cells #[.int .i64 x.2.t, .int .i64 x.2.w] 45)) (.cells #[.int .i64 x.1] 2) (fun _ => False)) (fun h => h) (fun h => h) (fun h => h) (fun h => h) (fun h => h) hS1
    refine hKc.out _ _ (fun _ => hS1') ?_
    clear hKc Kc
    refine wpAnyL_one (i := 8) (by kernel_rfl) rfl (fun Ka hKa => ?_)
    have bel0 : Below wr.heap.size wr ((wr.drew.alloc (.cells #[.int .i64 x.2.t, .int .i64 x.2.w] 45)).alloc (.cells #[.int .i64 x.1] 2)) := (((Below.refl _ wr).drew).alloc (Nat.le_refl _) _).alloc (by rw [World.size_alloc]; exact Nat.le_succ _) _
    have hSx := hS1'
    have nB : ((wr.drew.alloc (.cells #[.int .i64 x.2.t, .int .i64 x.2.w] 45)).alloc (.cells #[.int .i64 x.1] 2)).heap[wr.heap.size]? = some (.cells #[.int .i64 x.2.t, .int .i64 x.2.w] 45) := (Below.heap_alloc (wr.drew.alloc (.cells #[.int .i64 x.2.t, .int .i64 x.2.w] 45)) (.cells #[.int .i64 x.1] 2) _ (by rw [World.size_alloc]; exact Nat.lt_succ_self _)).trans (heap_alloc_new wr.drew (.cells #[.int .i64 x.2.t, .int .i64 x.2.w] 45))
    have nA : ((wr.drew.alloc (.cells #[.int .i64 x.2.t, .int .i64 x.2.w] 45)).alloc (.cells #[.int .i64 x.1] 2)).heap[wr.heap.size + 1]? = some (.cells #[.int .i64 x.1] 2) := by
      have := heap_alloc_new (wr.drew.alloc (.cells #[.int .i64 x.2.t, .int .i64 x.2.w] 45)) (.cells #[.int .i64 x.1] 2)
      rw [World.size_alloc] at this
      exact this
    refine step_append_own rfl (.tmp 119) (.tmp 126) 43 rfl w.heap.size 2 ii (.int .i64 0) 1 8 Try.underlying43 hii hy0 hy1 hy2 rfl (by decide) (.slice o1 m1 c1) _ _ (by simp [Act.eval]) (own_new HX.out.wrow bel0) ⟨wr.heap.size + 1, 0, none⟩ 1 1 [.int .i64 x.1] (by simp [Act.eval]) rfl (c_one nA) (by simp [Value.oneCell']) (by unfold maxLen; omega) (by omega) (Nat.le_trans HX.out.pb.low.size bel0.size) ?_
    intro v1 w1 own1 gr1 at1
    obtain ⟨p1, k1, d1, rfl⟩ := own_any own1
    have f2 : Fr _ w1 (fun k => (Value.slice o1 m1 c1).ownBlock = some k) := Fr.grown gr1 (fun k hk => hk)
    have hS2 := s30_fr f2 N1.out.1 N1.out.2.1 N1.out.2.2.1 N1.out.2.2.2.1 N1.out.2.2.2.2 hSx
    have own2w := own_kept (own_new HX.out.erow bel0) f2 (fun k hk => own_ne2 (own_new HX.out.wrow bel0) (own_new HX.out.erow bel0) (by decide) k hk)
    refine hKa.out _ _ (fun _ => hS2) ?_
    clear hKa Ka
    simp only [Act.put, List.setIfInBounds_toArray, List.set_cons_zero, List.set_cons_succ]
    have hS3 := hS2
    have nB1 := (f2.block _ (lt_of_block nB) (fun e => by have := (HX.out.wrow.lt _ e).2; omega)).trans nB
    refine wpAnyL_one (i := 20) (by kernel_rfl) rfl (fun K4 hK4 => ?_)
    have hX1 : Below w1.heap.size w1 _ := Below.refl _ _
    have own2' := own_new own2w hX1
    refine step_append_own rfl (.tmp 128) (.tmp 138) 37 rfl w.heap.size 45 ie (.agg #[.int .i64 0, .int .i64 0]) 2 16 Try.underlying37 hie hz0 hz1 hz2 rfl (by decide) (.slice o2 m2 c2) _ _ (by simp [Act.eval]) own2' ⟨wr.heap.size, 0, none⟩ 1 1 [.int .i64 x.2.t, .int .i64 x.2.w] (by simp [Act.eval]) rfl (c_two nB1) (by intro u hu; simp at hu; rcases hu with rfl | rfl <;> rfl) (by unfold maxLen; omega) (by omega) (Nat.le_trans (Nat.le_trans HX.out.pb.low.size (Nat.le_trans bel0.size gr1.size)) hX1.size) ?_
    intro v2 w2 own2 gr2 at2
    obtain ⟨p2, k2, d2, rfl⟩ := own_any own2
    have f4 : Fr _ w2 (fun k => (Value.slice o2 m2 c2).ownBlock = some k) := Fr.grown gr2 (fun k hk => hk)
    have hS4 := s30_fr f4 N2.out.1 N2.out.2.1 N2.out.2.2.1 N2.out.2.2.2.1 N2.out.2.2.2.2 hS3
    refine hK4.out _ _ (fun _ => hS4) ?_
    clear hK4 K4
    simp only [Act.put, List.setIfInBounds_toArray, List.set_cons_zero, List.set_cons_succ]
    have fw : Fr wr w2 (fun k => (Value.slice o1 m1 c1).ownBlock = some k ∨ (Value.slice o2 m2 c2).ownBlock = some k) := ((((Fr.ofBelow bel0 (fun _ => False)).mono (fun _ _ h => h.elim)).trans (Fr.grown gr1 (fun k hk => hk)) (fun _ _ h => .inl h)).trans (Fr.ofBelow hX1 (fun _ => False)) (fun _ _ h => h.elim)).trans f4 (fun _ _ h => .inr h)
    have q4 := (fw.block bw (lt_of_block HX.out.wb) (fun h => h.elim N1.out.2.1 N2.out.2.1)).trans HX.out.wb
    have q5 := (fw.block be (lt_of_block HX.out.eb) (fun h => h.elim N1.out.2.2.1 N2.out.2.2.1)).trans HX.out.eb
    have HP : Hid _ := HX.out.push bel0 gr1 own1 hX1 gr2 own2
    obtain ⟨y4, y5⟩ := cl_one q4
    have hlt3 := HX.out.h3
    obtain ⟨y6, y7⟩ := cl_one ((Below.heap_setCell w2 ⟨bw, 0, none⟩ (.slice p1 k1 d1) be (by show be ≠ bw; omega)).trans q5)
    clear q4 q5 fw f4 hS4 hS3 own2 gr2 at2 own2' own1 gr1 at1
    refine wpAnyL_one (i := 21) (by kernel_rfl) rfl (fun K5 hK5 => ?_)
    go_simp
    refine hK5.out _ _ (fun h => absurd h (Bool.eq_false_iff.1 (by kernel_rfl))) ?_
    clear hK5 K5
    refine wpAnyL_one (i := 22) (by kernel_rfl) rfl (fun K6 hK6 => ?_)
    go_simp
    refine hK6.out _ _ (fun h => absurd h (Bool.eq_false_iff.1 (by kernel_rfl))) ?_
    clear hK6 K6
    refine wpAnyL_done (by kernel_rfl) ?_ _
    exact HH.out _ _ _ _ _ _ _ _ _ _ _ _ _ _ _ _ _ _ _ _ _ _ _ _ _ _ _ _ HP.out
end Go.Proofs.Ytfajkfngjfhkoaa
