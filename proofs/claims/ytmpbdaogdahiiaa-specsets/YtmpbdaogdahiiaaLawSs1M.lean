import Derived.Test.YtmpbdaogdahiiaaLawSs2M
/- SpecSets: its loop over all vertices. -/
namespace Go.Proofs.Ytmpbdaogdahiiaa
open Go.RowKit Go.Shelf Go.Maps
attribute [local go_sem] Oper.semAt_some
set_option linter.unusedSimpArgs false in
set_option linter.unusedVariables false in
set_option maxRecDepth 100000 in
set_option maxHeartbeats 16000000 in
theorem ss_loop1 {w W : World} {bo : Option Addr} {N : List (List Int)} {n cx mp mt mc mo : Nat} {Lp C Lc Lt : List Int} {kk : Int} {cc : Nat → Nat} {x0 x2 x3 x4 x12 x13 x14 x15 x16 x17 x18 x19 x20 x21 x22 x23 x24 x25 x26 x27 x28 x29 x30 x31 x32 x33 x34 x35 x36 x37 x38 x39 x40 x41 x42 x43 x44 x45 x46 x47 x48 x49 x50 x51 x52 x53 x54 x55 x56 x57 x58 x59 x60 x61 x62 x63 x64 x65 x66 x67 x68 x69 x70 x71 x72 x73 x74 x75 x76 x77 x78 x79 x80 x81 x82 x83 x84 x85 x86 x87 x88 x89 x90 x91 x92 x93 x94 x95 x96 x97 x98 x99 x100 x101 x102 x103 x104 x105 x106 x107 x108 x109 x110 x111 x112 x113 x114 x115 x116 x117 x118 x119 x120 x121 x122 x123 x124 x125 x126 x127 x128 x129 x130 x131 x132 x133 x134 x135 x136 x137 x138 x139 x140 x141 x142 x143 x144 x145 x146 x147 x148 x149 x150 x151 x152 x153 x154 x155 x156 x157 x158 x159 x160 x161 x162 x163 x164 x165 x166 x167 x168 x169 x170 x171 x172 x173 x174 x175 x176 x177 x178 x179 x180 x181 x182 x183 x184 x185 x186 x187 x188 x189 x190 x191 x192 x193 x194 x195 x196 x197 x198 x199 x200 x201 x202 x203 x204 x205 x206 x207 x208 x209 x210 x211 x212 x213 x214 x215 x216 x217 x218 x219 x220 x221 x222 : Value} {K : Act → World → Prop} {Q' : Exit → Act → World → Prop}
    (hn : n ≤ 20) (hNear : ∀ W i a, Below w.heap.size w W → i < n → a < n → Calls Try.prog 17 #[.slice bo n cx, .int .i64 (i : Nat), .int .i64 (a : Nat)] W fun r w' => r = .returned (.bool (nbB N i a)) ∧ Below W.heap.size W w')
    (hFind : ∀ W i, Below w.heap.size w W → i < n → Calls Try.prog 16 #[.slice bo n cx, .int .i64 (Lp.getD i 0)] W fun r w' => r = .returned (.tuple #[.int .i64 (cc i : Nat), .bool true]) ∧ Below W.heap.size W w')
    (hPa : IB w mp Lp) (lp : Lp.length = n) (hTh : IB w mt Lt) (lt : Lt.length = n) (hCo : IB w mc Lc) (lc : Lc.length = n) (hCl : IB w mo C) (lo : C.length = n)
    (hcc : ∀ i, i < n → cc i ≤ i ∧ Lp.getD (cc i) 0 = Lp.getD i 0)
    (hpar : ∀ i a, i < n → a < n → nbB N i a = true → Lp.getD a 0 = Lp.getD i 0) (hcol : ∀ i a, i < n → a < n → nbB N i a = true → C.getD a 0 ≠ C.getD i 0) (hc64 : ∀ a, a < n → 0 ≤ C.getD a 0 ∧ C.getD a 0 ≤ 4096)
    (hthr : ∀ i, i < n → Lt.getD i 0 = (cntT N n i n : Nat)) (hcB : ∀ i, i < n → ∀ d : Nat, (d : Int) < C.getD i 0 → seenP N C i n d) (hcA : ∀ i, i < n → ¬ seenP N C i n (C.getD i 0))
    (hcor : ∀ i, i < n → 0 ≤ Lc.getD i 0 → Lc.getD i 0 = (inC N Lc i n : Nat) ∧ kk ≤ (inC N Lc i n : Nat))
    (hB : Below w.heap.size w W)
    (HC : ∀ (wr : World) y4 y11 y12 y13 y14 y15 y16 y17 y18 y19 y63 y64 y65 y66 y67 y68 y69 y70 y71 y72 y73 y74 y75 y76 y77 y78 y79 y80 y81 y82 y83 y84 y85 y86 y87 y88 y89 y90 y91 y92 y93 y94 y95 y96 y97 y98 y99 y100 y101 y102 y103 y104 y105 y106 y107 y108 y109 y110 y111 y112 y113 y114 y115 y116 y117 y118 y119 y120 y121 y122 y123 y124 y125 y126 y127 y128 y129 y130 y131 y132 y133 y134 y135 y136 y137 y138 y139 y140 y141 y142 y143 y144 y145 y146 y147 y148 y149 y150 y151 y152 y153 y154 y155 y156 y157 y158 y159 y160 y161 y162 y163 y164 y165 y166 y167 y168 y169 y170 y171 y172 y173 y174 y175 y176 y177 y178 y179 y180 y181 y182 y183 y184 y185 y186 y187 y188 y189 y190 y191 y192 y193 y194 y195 y196 y197 y198 y199 y200 y201 y202 y203 y204 y205 y206 y207 y208 y209 y210 y211 y212 y213 y214 y215, Below w.heap.size w wr → K ⟨(List.toArray (x0 :: (.int .i64 kk) :: x2 :: x3 :: y4 :: (.slice bo n cx) :: (.int .i64 n) :: (.slice (some ⟨mp, 0, none⟩) n n) :: (.slice (some ⟨mt, 0, none⟩) n n) :: (.slice (some ⟨mc, 0, none⟩) n n) :: (.slice (some ⟨mo, 0, none⟩) n n) :: y11 :: y12 :: y13 :: y14 :: y15 :: y16 :: y17 :: y18 :: y19 :: x20 :: x21 :: x22 :: x23 :: x24 :: x25 :: x26 :: x27 :: x28 :: x29 :: x30 :: x31 :: x32 :: x33 :: x34 :: x35 :: x36 :: x37 :: x38 :: x39 :: x40 :: x41 :: x42 :: x43 :: x44 :: x45 :: x46 :: x47 :: x48 :: x49 :: x50 :: x51 :: x52 :: x53 :: x54 :: x55 :: x56 :: x57 :: x58 :: x59 :: x60 :: x61 :: x62 :: y63 :: y64 :: y65 :: y66 :: y67 :: y68 :: y69 :: y70 :: y71 :: y72 :: y73 :: y74 :: y75 :: y76 :: y77 :: y78 :: y79 :: y80 :: y81 :: y82 :: y83 :: y84 :: y85 :: y86 :: y87 :: y88 :: y89 :: y90 :: y91 :: y92 :: y93 :: y94 :: y95 :: y96 :: y97 :: y98 :: y99 :: y100 :: y101 :: y102 :: y103 :: y104 :: y105 :: y106 :: y107 :: y108 :: y109 :: y110 :: y111 :: y112 :: y113 :: y114 :: y115 :: y116 :: y117 :: y118 :: y119 :: y120 :: y121 :: y122 :: y123 :: y124 :: y125 :: y126 :: y127 :: y128 :: y129 :: y130 :: y131 :: y132 :: y133 :: y134 :: y135 :: y136 :: y137 :: y138 :: y139 :: y140 :: y141 :: y142 :: y143 :: y144 :: y145 :: y146 :: y147 :: y148 :: y149 :: y150 :: y151 :: y152 :: y153 :: y154 :: y155 :: y156 :: y157 :: y158 :: y159 :: y160 :: y161 :: y162 :: y163 :: y164 :: y165 :: y166 :: y167 :: y168 :: y169 :: y170 :: y171 :: y172 :: y173 :: y174 :: y175 :: y176 :: y177 :: y178 :: y179 :: y180 :: y181 :: y182 :: y183 :: y184 :: y185 :: y186 :: y187 :: y188 :: y189 :: y190 :: y191 :: y192 :: y193 :: y194 :: y195 :: y196 :: y197 :: y198 :: y199 :: y200 :: y201 :: y202 :: y203 :: y204 :: y205 :: y206 :: y207 :: y208 :: y209 :: y210 :: y211 :: y212 :: y213 :: y214 :: y215 :: x216 :: x217 :: x218 :: x219 :: x220 :: x221 :: x222 :: [])), []⟩ wr) :
    Code.wp Try.prog ((Try.f4.body.bind (inBlkS 0)).getD .skip) (Exit.inBlock 0 (Exit.then K Q')) ⟨(List.toArray (x0 :: (.int .i64 kk) :: x2 :: x3 :: x4 :: (.slice bo n cx) :: (.int .i64 n) :: (.slice (some ⟨mp, 0, none⟩) n n) :: (.slice (some ⟨mt, 0, none⟩) n n) :: (.slice (some ⟨mc, 0, none⟩) n n) :: (.slice (some ⟨mo, 0, none⟩) n n) :: (.int .i64 0) :: x12 :: x13 :: x14 :: x15 :: x16 :: x17 :: x18 :: x19 :: x20 :: x21 :: x22 :: x23 :: x24 :: x25 :: x26 :: x27 :: x28 :: x29 :: x30 :: x31 :: x32 :: x33 :: x34 :: x35 :: x36 :: x37 :: x38 :: x39 :: x40 :: x41 :: x42 :: x43 :: x44 :: x45 :: x46 :: x47 :: x48 :: x49 :: x50 :: x51 :: x52 :: x53 :: x54 :: x55 :: x56 :: x57 :: x58 :: x59 :: x60 :: x61 :: x62 :: x63 :: x64 :: x65 :: x66 :: x67 :: x68 :: x69 :: x70 :: x71 :: x72 :: x73 :: x74 :: x75 :: x76 :: x77 :: x78 :: x79 :: x80 :: x81 :: x82 :: x83 :: x84 :: x85 :: x86 :: x87 :: x88 :: x89 :: x90 :: x91 :: x92 :: x93 :: x94 :: x95 :: x96 :: x97 :: x98 :: x99 :: x100 :: x101 :: x102 :: x103 :: x104 :: x105 :: x106 :: x107 :: x108 :: x109 :: x110 :: x111 :: x112 :: x113 :: x114 :: x115 :: x116 :: x117 :: x118 :: x119 :: x120 :: x121 :: x122 :: x123 :: x124 :: x125 :: x126 :: x127 :: x128 :: x129 :: x130 :: x131 :: x132 :: x133 :: x134 :: x135 :: x136 :: x137 :: x138 :: x139 :: x140 :: x141 :: x142 :: x143 :: x144 :: x145 :: x146 :: x147 :: x148 :: x149 :: x150 :: x151 :: x152 :: x153 :: x154 :: x155 :: x156 :: x157 :: x158 :: x159 :: x160 :: x161 :: x162 :: x163 :: x164 :: x165 :: x166 :: x167 :: x168 :: x169 :: x170 :: x171 :: x172 :: x173 :: x174 :: x175 :: x176 :: x177 :: x178 :: x179 :: x180 :: x181 :: x182 :: x183 :: x184 :: x185 :: x186 :: x187 :: x188 :: x189 :: x190 :: x191 :: x192 :: x193 :: x194 :: x195 :: x196 :: x197 :: x198 :: x199 :: x200 :: x201 :: x202 :: x203 :: x204 :: x205 :: x206 :: x207 :: x208 :: x209 :: x210 :: x211 :: x212 :: x213 :: x214 :: x215 :: x216 :: x217 :: x218 :: x219 :: x220 :: x221 :: x222 :: [])), []⟩ W := by
  have HH : Hid _ := HC
  have HNear : Hid (∀ W i a, Below w.heap.size w W → i < n → a < n → Calls Try.prog 17 #[.slice bo n cx, .int .i64 (i : Nat), .int .i64 (a : Nat)] W fun r w' => r = .returned (.bool (nbB N i a)) ∧ Below W.heap.size W w') := hNear
  have HFind : Hid (∀ W i, Below w.heap.size w W → i < n → Calls Try.prog 16 #[.slice bo n cx, .int .i64 (Lp.getD i 0)] W fun r w' => r = .returned (.tuple #[.int .i64 (cc i : Nat), .bool true]) ∧ Below W.heap.size W w') := hFind
  have HAll : Hid (∀ (W : World) a (ha : a < n), Below w.heap.size w W → W.cell? ⟨mp, a, none⟩ = some (.int .i64 (Lp.getD a 0)) ∧ W.cell? ⟨mt, a, none⟩ = some (.int .i64 (Lt.getD a 0)) ∧ W.cell? ⟨mc, a, none⟩ = some (.int .i64 (Lc.getD a 0)) ∧ W.cell? ⟨mo, a, none⟩ = some (.int .i64 (C.getD a 0))) := fun W a ha hb => by
    have g : ∀ {L : List Int}, L.length = n → ∀ h : a < L.length, L.getD a 0 = L[a] := fun _ h => by simp [List.getD, h]
    rw [g lp (by omega), g lt (by omega), g lc (by omega), g lo (by omega)]
    exact ⟨(hb.cell (p := ⟨mp, a, none⟩) (lt_cell (IB.cell hPa (j := a) (by omega)).1)).trans (IB.cell hPa (j := a) (by omega)).1, (hb.cell (p := ⟨mt, a, none⟩) (lt_cell (IB.cell hTh (j := a) (by omega)).1)).trans (IB.cell hTh (j := a) (by omega)).1, (hb.cell (p := ⟨mc, a, none⟩) (lt_cell (IB.cell hCo (j := a) (by omega)).1)).trans (IB.cell hCo (j := a) (by omega)).1, (hb.cell (p := ⟨mo, a, none⟩) (lt_cell (IB.cell hCl (j := a) (by omega)).1)).trans (IB.cell hCl (j := a) (by omega)).1⟩
  have HIBs : Hid (IB w mp Lp ∧ Lp.length = n ∧ IB w mc Lc ∧ Lc.length = n ∧ IB w mo C ∧ C.length = n) := ⟨hPa, lp, hCo, lc, hCl, lo⟩
  have HCc : Hid (∀ i, i < n → cc i ≤ i ∧ Lp.getD (cc i) 0 = Lp.getD i 0) := hcc
  have HPar : Hid (∀ i a, i < n → a < n → nbB N i a = true → Lp.getD a 0 = Lp.getD i 0) := hpar
  have HCol : Hid (∀ i a, i < n → a < n → nbB N i a = true → C.getD a 0 ≠ C.getD i 0) := hcol
  have HC64 : Hid (∀ a, a < n → 0 ≤ C.getD a 0 ∧ C.getD a 0 ≤ 4096) := hc64
  have HThr : Hid (∀ i, i < n → Lt.getD i 0 = (cntT N n i n : Nat)) := hthr
  have HcB : Hid (∀ i, i < n → ∀ d : Nat, (d : Int) < C.getD i 0 → seenP N C i n d) := hcB
  have HcA : Hid (∀ i, i < n → ¬ seenP N C i n (C.getD i 0)) := hcA
  have HCor : Hid (∀ i, i < n → 0 ≤ Lc.getD i 0 → Lc.getD i 0 = (inC N Lc i n : Nat) ∧ kk ≤ (inC N Lc i n : Nat)) := hcor
  have HB0 : Hid (Below w.heap.size w W) := hB
  have hmm := @run_makeMap Try.prog
  clear HC hNear hFind hPa hTh hCo hCl lp lt lc lo hcc hpar hcol hc64 hthr hcB hcA hcor hB
  conv => arg 2; whnf
  go_loopw [11] (fun iv wr => ∃ i : Nat, i ≤ n ∧ iv = .int .i64 i ∧ Hid (Below w.heap.size w wr)) (fun iv _ => n - (intOf iv).toNat)
  case atStart => exact ⟨0, Nat.zero_le _, rfl, HB0⟩
  case round =>
    clear HB0
    obtain ⟨i, hi, rfl, HB⟩ := hrel
    by_cases hil : i < n
    · have HIl : Hid (i < n) := hil
      have hii : (i : Int) < n := by omega
      obtain ⟨p0, -, -, -⟩ := HAll.out wr i hil HB.out
      have hFd := HFind.out wr i HB.out hil
      obtain ⟨hc1, hc2⟩ := HCc.out i hil
      have HC2 : Hid (Lp.getD (cc i) 0 = Lp.getD i 0) := hc2
      clear hc2
      go_upto_region 15 with (go_at_call 16; refine hFd.mono ?_; rintro r w5 ⟨rfl, hb5⟩)
      have HB5 : Hid (Below w.heap.size w w5) := HB.out.trans (hb5.mono HB.out.size)
      clear hFd hb5 p0 HB
      obtain ⟨Wd, hWd⟩ : ∃ Wd, World.drew w5 = Wd := ⟨_, rfl⟩
      have HBd : Hid (Below w.heap.size w Wd) := by show Below _ _ _; rw [← hWd]; exact bel_drewN HB5.out 1
      have hca : cc i < n := by omega
      obtain ⟨s0, -, -, -⟩ := HAll.out Wd (cc i) hca HBd.out
      obtain ⟨s1, -, -, -⟩ := HAll.out Wd i hil HBd.out
      rw [HC2.out] at s0
      generalize Lp.getD i 0 = pp at s0 s1 ⊢
      generalize hat : cc i = at_ at s0 hc1 hca ⊢
      have hai : (at_ : Int) ≤ i := by omega
      have han : (at_ : Int) < n := by omega
      clear hat HC2
      refine wp_calm ?_
      refine wp_region_L [] (fun w' : World => w'.cell? ⟨mp, at_, none⟩ = some (.int .i64 pp) ∧ w'.cell? ⟨mp, i, none⟩ = some (.int .i64 pp)) (by kernel_rfl) ?_
      rw [hWd]
      clear hWd
      have hS : (fun w' : World => w'.cell? ⟨mp, at_, none⟩ = some (.int .i64 pp) ∧ w'.cell? ⟨mp, i, none⟩ = some (.int .i64 pp)) Wd := ⟨s0, s1⟩
      refine wpAnyL_take (i := 0) 77 (v := .bool true) rfl rfl (by kernel_rfl) (by kernel_rfl) (by kernel_rfl) (by kernel_rfl) (by kernel_rfl) (by kernel_rfl) (fun _ _ _ h => h) hS (by rfl) (by intro w' hSw; obtain ⟨y0, y1⟩ := hSw; go_simp <;> with_reducible rfl) ?_
      simp only [Act.put, List.setIfInBounds_toArray, List.set_cons_zero, List.set_cons_succ]
      refine wpAnyL_take (i := 1) 78 (v := .bool false) rfl rfl (by kernel_rfl) (by kernel_rfl) (by kernel_rfl) (by kernel_rfl) (by kernel_rfl) (by kernel_rfl) (fun _ _ _ h => h) hS (by rfl) (by intro w' hSw; obtain ⟨y0, y1⟩ := hSw; go_simp <;> with_reducible rfl) ?_
      simp only [Act.put, List.setIfInBounds_toArray, List.set_cons_zero, List.set_cons_succ]
      refine wpAnyL_take (i := 2) 79 (v := .bool false) rfl rfl (by kernel_rfl) (by kernel_rfl) (by kernel_rfl) (by kernel_rfl) (by kernel_rfl) (by kernel_rfl) (fun _ _ _ h => h) hS (by rfl) (by intro w' hSw; obtain ⟨y0, y1⟩ := hSw; go_simp <;> with_reducible rfl) ?_
      simp only [Act.put, List.setIfInBounds_toArray, List.set_cons_zero, List.set_cons_succ]
      refine wpAnyL_take (i := 3) 80 (v := .int .i64 at_) rfl rfl (by kernel_rfl) (by kernel_rfl) (by kernel_rfl) (by kernel_rfl) (by kernel_rfl) (by kernel_rfl) (fun _ _ _ h => h) hS (by rfl) (by intro w' hSw; obtain ⟨y0, y1⟩ := hSw; go_simp <;> with_reducible rfl) ?_
      simp only [Act.put, List.setIfInBounds_toArray, List.set_cons_zero, List.set_cons_succ]
      refine wpAnyL_take (i := 4) 81 (v := .int .i64 i) rfl rfl (by kernel_rfl) (by kernel_rfl) (by kernel_rfl) (by kernel_rfl) (by kernel_rfl) (by kernel_rfl) (fun _ _ _ h => h) hS (by rfl) (by intro w' hSw; obtain ⟨y0, y1⟩ := hSw; go_simp <;> with_reducible rfl) ?_
      simp only [Act.put, List.setIfInBounds_toArray, List.set_cons_zero, List.set_cons_succ]
      refine wpAnyL_take (i := 5) 82 (v := .bool false) rfl rfl (by kernel_rfl) (by kernel_rfl) (by kernel_rfl) (by kernel_rfl) (by kernel_rfl) (by kernel_rfl) (fun _ _ _ h => h) hS (by rfl) (by intro w' hSw; obtain ⟨y0, y1⟩ := hSw; go_simp <;> with_reducible rfl) ?_
      simp only [Act.put, List.setIfInBounds_toArray, List.set_cons_zero, List.set_cons_succ]
      refine wpAnyL_take (i := 6) 83 (v := .bool false) rfl rfl (by kernel_rfl) (by kernel_rfl) (by kernel_rfl) (by kernel_rfl) (by kernel_rfl) (by kernel_rfl) (fun _ _ _ h => h) hS (by rfl) (by intro w' hSw; obtain ⟨y0, y1⟩ := hSw; go_simp <;> with_reducible rfl) ?_
      simp only [Act.put, List.setIfInBounds_toArray, List.set_cons_zero, List.set_cons_succ]
      refine wpAnyL_take (i := 7) 84 (v := .bool false) rfl rfl (by kernel_rfl) (by kernel_rfl) (by kernel_rfl) (by kernel_rfl) (by kernel_rfl) (by kernel_rfl) (fun _ _ _ h => h) hS (by rfl) (by intro w' hSw; obtain ⟨y0, y1⟩ := hSw; go_simp <;> with_reducible rfl) ?_
      simp only [Act.put, List.setIfInBounds_toArray, List.set_cons_zero, List.set_cons_succ]
      refine wpAnyL_take (i := 8) 85 (v := .slice (some ⟨mp, 0, none⟩) n n) rfl rfl (by kernel_rfl) (by kernel_rfl) (by kernel_rfl) (by kernel_rfl) (by kernel_rfl) (by kernel_rfl) (fun _ _ _ h => h) hS (by rfl) (by intro w' hSw; obtain ⟨y0, y1⟩ := hSw; go_simp <;> with_reducible rfl) ?_
      simp only [Act.put, List.setIfInBounds_toArray, List.set_cons_zero, List.set_cons_succ]
      refine wpAnyL_take (i := 9) 86 (v := .int .i64 at_) rfl rfl (by kernel_rfl) (by kernel_rfl) (by kernel_rfl) (by kernel_rfl) (by kernel_rfl) (by kernel_rfl) (fun _ _ _ h => h) hS (by rfl) (by intro w' hSw; obtain ⟨y0, y1⟩ := hSw; go_simp <;> with_reducible rfl) ?_
      simp only [Act.put, List.setIfInBounds_toArray, List.set_cons_zero, List.set_cons_succ]
      refine wpAnyL_take (i := 10) 87 (v := .pointer (some ⟨mp, at_, none⟩)) rfl rfl (by kernel_rfl) (by kernel_rfl) (by kernel_rfl) (by kernel_rfl) (by kernel_rfl) (by kernel_rfl) (fun _ _ _ h => h) hS (by rfl) (by intro w' hSw; obtain ⟨y0, y1⟩ := hSw; go_simp <;> with_reducible rfl) ?_
      simp only [Act.put, List.setIfInBounds_toArray, List.set_cons_zero, List.set_cons_succ]
      refine wpAnyL_take (i := 11) 88 (v := .int .i64 pp) rfl rfl (by kernel_rfl) (by kernel_rfl) (by kernel_rfl) (by kernel_rfl) (by kernel_rfl) (by kernel_rfl) (fun _ _ _ h => h) hS (by rfl) (by intro w' hSw; obtain ⟨y0, y1⟩ := hSw; go_simp <;> with_reducible rfl) ?_
      simp only [Act.put, List.setIfInBounds_toArray, List.set_cons_zero, List.set_cons_succ]
      refine wpAnyL_take (i := 12) 89 (v := .slice (some ⟨mp, 0, none⟩) n n) rfl rfl (by kernel_rfl) (by kernel_rfl) (by kernel_rfl) (by kernel_rfl) (by kernel_rfl) (by kernel_rfl) (fun _ _ _ h => h) hS (by rfl) (by intro w' hSw; obtain ⟨y0, y1⟩ := hSw; go_simp <;> with_reducible rfl) ?_
      simp only [Act.put, List.setIfInBounds_toArray, List.set_cons_zero, List.set_cons_succ]
      refine wpAnyL_take (i := 13) 90 (v := .int .i64 i) rfl rfl (by kernel_rfl) (by kernel_rfl) (by kernel_rfl) (by kernel_rfl) (by kernel_rfl) (by kernel_rfl) (fun _ _ _ h => h) hS (by rfl) (by intro w' hSw; obtain ⟨y0, y1⟩ := hSw; go_simp <;> with_reducible rfl) ?_
      simp only [Act.put, List.setIfInBounds_toArray, List.set_cons_zero, List.set_cons_succ]
      refine wpAnyL_take (i := 14) 91 (v := .pointer (some ⟨mp, i, none⟩)) rfl rfl (by kernel_rfl) (by kernel_rfl) (by kernel_rfl) (by kernel_rfl) (by kernel_rfl) (by kernel_rfl) (fun _ _ _ h => h) hS (by rfl) (by intro w' hSw; obtain ⟨y0, y1⟩ := hSw; go_simp <;> with_reducible rfl) ?_
      simp only [Act.put, List.setIfInBounds_toArray, List.set_cons_zero, List.set_cons_succ]
      refine wpAnyL_take (i := 15) 92 (v := .int .i64 pp) rfl rfl (by kernel_rfl) (by kernel_rfl) (by kernel_rfl) (by kernel_rfl) (by kernel_rfl) (by kernel_rfl) (fun _ _ _ h => h) hS (by rfl) (by intro w' hSw; obtain ⟨y0, y1⟩ := hSw; go_simp <;> with_reducible rfl) ?_
      simp only [Act.put, List.setIfInBounds_toArray, List.set_cons_zero, List.set_cons_succ]
      refine wpAnyL_take (i := 16) 93 (v := .bool false) rfl rfl (by kernel_rfl) (by kernel_rfl) (by kernel_rfl) (by kernel_rfl) (by kernel_rfl) (by kernel_rfl) (fun _ _ _ h => h) hS (by rfl) (by intro w' hSw; obtain ⟨y0, y1⟩ := hSw; go_simp <;> with_reducible rfl) ?_
      simp only [Act.put, List.setIfInBounds_toArray, List.set_cons_zero, List.set_cons_succ]
      refine wpAnyL_take (i := 17) 94 (v := .bool false) rfl rfl (by kernel_rfl) (by kernel_rfl) (by kernel_rfl) (by kernel_rfl) (by kernel_rfl) (by kernel_rfl) (fun _ _ _ h => h) hS (by rfl) (by intro w' hSw; obtain ⟨y0, y1⟩ := hSw; go_simp <;> with_reducible rfl) ?_
      simp only [Act.put, List.setIfInBounds_toArray, List.set_cons_zero, List.set_cons_succ]
      refine wpAnyL_done (by kernel_rfl) ?_ _
      clear hS
      clear s0 s1 HB5
      go_upto_region 18 with (fail)
      generalize hW6 : World.alloc _ _ = W6
      have b6 : Below Wd.heap.size Wd W6 := by rw [← hW6]; exact one_new _ _
      have HM6 : Hid (BMap W6 Wd.heap.size 0 (fun _ => false)) := by show BMap _ _ _ _; rw [← hW6]; exact BMap.made _
      have HB6 : Hid (Below w.heap.size w W6) := HBd.out.trans (b6.mono HBd.out.size)
      have HBb : Hid (w.heap.size ≤ Wd.heap.size) := HBd.out.size
      clear hW6 b6 HBd
      generalize Wd.heap.size = b at HM6 HBb ⊢
      go_wp2
      refine ss_loop2 hn HIl.out HNear.out HIBs.out.1 HIBs.out.2.1 HIBs.out.2.2.1 HIBs.out.2.2.2.1 HIBs.out.2.2.2.2.1 HIBs.out.2.2.2.2.2 (fun a ha h => HPar.out i a HIl.out ha h) (fun a ha h => HCol.out i a HIl.out ha h) HC64.out HBb.out HM6.out HB6.out ?_
      intro wx f nn y4 y17 y18 y96 y97 y98 y99 y100 y101 y102 y103 y104 y105 y106 y107 y108 y109 y110 y111 y112 y113 y114 y115 y116 y117 y118 y119 y120 y121 y122 y123 y124 y125 y126 y127 y128 y129 y130 y131 y132 y133 y134 y135 y136 y137 y138 y139 y140 y141 y142 y143 y144 y145 y146 y147 y148 y149 y150 y151 y152 y153 y154 y155 y156 y157 y158 y159 y160 y161 y162 y163 y164 y165 y166 y167 y168 y169 hM7 hS7 hB7
      have HM7 : Hid (BMap wx b nn f) := hM7
      have HS7 : Hid (∀ x, f x = true ↔ seenP N C i n x) := hS7
      have HB7 : Hid (Below w.heap.size w wx) := hB7
      clear hM7 hS7 hB7 HM6 HB6
      obtain ⟨-, t0, c0, o0⟩ := HAll.out wx i HIl.out HB7.out
      have hcb := HC64.out i HIl.out
      have HF1 : Hid (∀ d : Nat, (d : Int) < C.getD i 0 → f d = true) := fun d hd => (HS7.out d).2 (HcB.out i HIl.out d hd)
      have HF2 : Hid (f (C.getD i 0) = false) := by
        show f _ = false
        rw [← Bool.not_eq_true]
        intro h
        exact HcA.out i HIl.out ((HS7.out _).1 h)
      have hth := HThr.out i HIl.out
      have HCo2 : Hid (0 ≤ Lc.getD i 0 → Lc.getD i 0 = (inC N Lc i n : Nat) ∧ kk ≤ (inC N Lc i n : Nat)) := HCor.out i HIl.out
      have hcl : cntT N n i n ≤ 400 := Nat.le_trans (cntT_le N n i n) (Nat.le_trans (Nat.mul_le_mul hn hn) (by decide))
      have hicl := inC_le N Lc i n
      rw [hth] at t0
      generalize cntT N n i n = ct at t0 hcl ⊢
      generalize inC N Lc i n = ic at HCo2 hicl ⊢
      generalize hci : C.getD i 0 = ci0 at o0 hcb HF1 HF2
      obtain ⟨ci, rfl⟩ : ∃ ci : Nat, ci0 = ci := ⟨ci0.toNat, by omega⟩
      generalize Lc.getD i 0 = li at c0 HCo2
      clear hth hci
      go_wp2
      go_loopw [19] (fun dv wr => ∃ d : Nat, d ≤ ci ∧ dv = .int .i64 d ∧ wr = wx) (fun dv _ => ci - (intOf dv).toNat)
      case atStart => exact ⟨0, Nat.zero_le _, rfl, rfl⟩
      case round =>
        obtain ⟨d, hd, rfl, rfl⟩ := hrel
        by_cases hdl : d < ci
        · have HDl : Hid (d < ci) := hdl
          have hlk := HM7.out.look (x := (d : Int)) ⟨by omega, by omega⟩
          rw [HF1.out d (by omega)] at hlk
          have hdi : (d : Int) < ci := by omega
          go_wp2
          go_roundw
          case rel => exact ⟨d + 1, HDl.out, by go_num, (by first | trivial | rfl)⟩
          case measure => have := HDl.out; simp [intOf]; omega
        · obtain rfl : d = ci := by omega
          have hlk := HM7.out.look (x := (d : Int)) ⟨by omega, by omega⟩
          rw [HF2.out] at hlk
          clear hdl
          by_cases hli : 0 ≤ li
          · obtain ⟨he, hk⟩ := HCo2.out hli
            subst he
            go_wp2
            go_roundw
            case rel => exact ⟨i + 1, HIl.out, by go_num, HB7⟩
            case measure => have := HIl.out; simp [intOf]; omega
          · have hli2 : li < 0 := by omega
            go_wp2
            go_roundw
            case rel => exact ⟨i + 1, HIl.out, by go_num, HB7⟩
            case measure => have := HIl.out; simp [intOf]; omega
    · obtain rfl : i = n := by omega
      clear hil
      go_wp2
      exact HH.out _ _ _ _ _ _ _ _ _ _ _ _ _ _ _ _ _ _ _ _ _ _ _ _ _ _ _ _ _ _ _ _ _ _ _ _ _ _ _ _ _ _ _ _ _ _ _ _ _ _ _ _ _ _ _ _ _ _ _ _ _ _ _ _ _ _ _ _ _ _ _ _ _ _ _ _ _ _ _ _ _ _ _ _ _ _ _ _ _ _ _ _ _ _ _ _ _ _ _ _ _ _ _ _ _ _ _ _ _ _ _ _ _ _ _ _ _ _ _ _ _ _ _ _ _ _ _ _ _ _ _ _ _ _ _ _ _ _ _ _ _ _ _ _ _ _ _ _ _ _ _ _ _ _ _ _ _ _ _ _ _ _ _ _ HB.out
end Go.Proofs.Ytmpbdaogdahiiaa
