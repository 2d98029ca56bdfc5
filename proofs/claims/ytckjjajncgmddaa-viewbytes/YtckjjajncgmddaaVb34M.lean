import Derived.Test.YtckjjajncgmddaaVbCM
import Derived.Test.YtckjjajncgmddaaOrdLM
/- ViewBytes: each entry is put, and taken again. -/
namespace Go.Proofs.Ytckjjajncgmddaa
open Go.RowKit
attribute [local go_sem] Oper.semAt_some
/-- The bytes of an entry are read as that entry. -/
theorem take_ent {w : World} {p : Nat} (e : Ent) (h : Rd w p (str (entB e)) 0 0) (hv : 0 ≤ e.v ∧ e.v ≤ 2147483647) (hs : e.s.size ≤ 1048576) :
    Calls Try.prog 19 #[.pointer (some ⟨p, 0, none⟩)] w fun r w' => r = .returned (.agg #[.int .i64 e.v, .string e.s]) ∧ Fr w w' (fun k => k = p) := by
  have hd : (str (entB e)).data.toList = entB e := by simp [str]
  have h1 := count_at (s := str (entB e)) (a := []) (c := textB e.s.data.toList) (n := e.v.toNat) (most := 2147483647) (by rw [hd]; unfold entB; simp) (by omega) (by decide)
  have h2 := text_atV (s := str (entB e)) (t := e.s) (a := numB e.v.toNat) (c := []) (by rw [hd]; unfold entB; simp) (by omega)
  have hsz : (str (entB e)).size ≤ maxLen := by
    have h3 := entB_len e (by omega) (by omega)
    have h4 : (str (entB e)).size = (entB e).length := by simp [str, ByteArray.size]
    rw [h4]
    exact Nat.le_trans h3 (Nat.le_trans (Nat.add_le_add_right hs 30) (by decide))
  refine (takeE_any h hsz (Nat.zero_le _) h1 h2).mono ?_
  rintro r w' ⟨rfl, -, hf⟩
  refine ⟨?_, hf⟩
  rw [show okE e.v.toNat e.s 0 = ⟨e.v.toNat, e.s⟩ from rfl]
  have : ((e.v.toNat : Nat) : Int) = e.v := Int.toNat_of_nonneg hv.1
  simp [this]
set_option linter.unusedSimpArgs false in
set_option maxRecDepth 100000 in
set_option maxHeartbeats 8000000 in
theorem vb34 {w W : World} {q : Nat} {k fr tt vw nm ix cm bi bv : Int} {base : ByteArray} {ao : Option Addr} {n1 cap : Nat} {E1 : List Ent} {x0 x1 x2 x4 x5 x6 x7 x9 x10 x11 x12 x13 x14 x15 x16 x17 x19 x20 x21 x22 x23 x24 x25 x26 x27 x28 x29 x30 x31 x32 x33 x34 x35 x36 x37 x38 x39 x40 x41 x42 x43 x44 x45 x46 x47 x48 x49 x50 x51 x52 x53 x54 x55 x56 x57 x58 x59 x60 x61 x62 x63 x64 x65 x66 x67 x68 x69 x70 x71 x72 x73 x74 x75 x76 x77 x78 x79 x80 x81 x82 x83 x84 x85 x86 x87 x88 x89 x90 x91 x92 x93 x94 x95 x96 x97 x98 x99 x100 x101 x102 x103 x104 x105 x106 x107 x108 x109 x110 x111 x112 x113 x114 x115 x116 x117 x118 x119 x120 x121 x122 x123 x124 x125 x126 x127 x128 x129 x130 x131 x132 x133 x134 x135 x136 x137 x138 x139 x140 x141 x142 x143 x144 x145 x146 x147 x148 x149 x150 x151 x152 x153 x154 x155 x156 x157 x158 x159 x160 x161 x162 x163 x164 x165 x166 x167 x168 x169 x170 x171 x172 x173 x174 x175 x176 x177 x178 x179 x180 x181 x182 x183 x184 x185 x186 x187 x188 x189 x190 x191 x192 x193 x194 x195 x196 x197 x198 x199 x200 x201 x202 x203 x204 x205 x206 x207 x208 x209 x210 x211 x212 x213 x214 x215 x216 x217 x218 x219 x220 x221 x222 x223 x224 x225 x226 x227 x228 x229 x230 x231 x232 x233 x234 x235 x236 x237 x238 x239 x240 x241 x242 x243 x244 x245 x246 x247 x248 x249 x250 x251 x252 x253 x254 x255 x256 x257 x258 x259 : Value} {okb : Bool} {K : Act → World → Prop} {Q' : Exit → Act → World → Prop} (HL : Hid (LB w W q k fr tt vw nm ix cm bi bv base ao n1 cap E1)) (hn1 : n1 ≤ 1001) (hok : Hid (okb = true → ∀ x ∈ E1, 0 ≤ x.v ∧ x.v ≤ 2147483647)) (hbk : Hid (∀ x ∈ E1, x.s.size ≤ 1048576))
    (HC : ∀ (W' : World), Below W.heap.size W W' → ∀ (y6 y18 y19 y200 y201 y202 y203 y204 y205 y206 y207 y208 y209 y210 y211 y212 y213 y214 y215 y216 y217 y218 y219 y220 y221 y222 y223 y224 y225 y226 y227 : Value), K ⟨(List.toArray (x0 :: x1 :: x2 :: (.pointer (some ⟨q, 0, none⟩)) :: x4 :: x5 :: y6 :: x7 :: (.bool okb) :: x9 :: x10 :: x11 :: x12 :: x13 :: x14 :: x15 :: x16 :: x17 :: y18 :: y19 :: x20 :: x21 :: x22 :: x23 :: x24 :: x25 :: x26 :: x27 :: x28 :: x29 :: x30 :: x31 :: x32 :: x33 :: x34 :: x35 :: x36 :: x37 :: x38 :: x39 :: x40 :: x41 :: x42 :: x43 :: x44 :: x45 :: x46 :: x47 :: x48 :: x49 :: x50 :: x51 :: x52 :: x53 :: x54 :: x55 :: x56 :: x57 :: x58 :: x59 :: x60 :: x61 :: x62 :: x63 :: x64 :: x65 :: x66 :: x67 :: x68 :: x69 :: x70 :: x71 :: x72 :: x73 :: x74 :: x75 :: x76 :: x77 :: x78 :: x79 :: x80 :: x81 :: x82 :: x83 :: x84 :: x85 :: x86 :: x87 :: x88 :: x89 :: x90 :: x91 :: x92 :: x93 :: x94 :: x95 :: x96 :: x97 :: x98 :: x99 :: x100 :: x101 :: x102 :: x103 :: x104 :: x105 :: x106 :: x107 :: x108 :: x109 :: x110 :: x111 :: x112 :: x113 :: x114 :: x115 :: x116 :: x117 :: x118 :: x119 :: x120 :: x121 :: x122 :: x123 :: x124 :: x125 :: x126 :: x127 :: x128 :: x129 :: x130 :: x131 :: x132 :: x133 :: x134 :: x135 :: x136 :: x137 :: x138 :: x139 :: x140 :: x141 :: x142 :: x143 :: x144 :: x145 :: x146 :: x147 :: x148 :: x149 :: x150 :: x151 :: x152 :: x153 :: x154 :: x155 :: x156 :: x157 :: x158 :: x159 :: x160 :: x161 :: x162 :: x163 :: x164 :: x165 :: x166 :: x167 :: x168 :: x169 :: x170 :: x171 :: x172 :: x173 :: x174 :: x175 :: x176 :: x177 :: x178 :: x179 :: x180 :: x181 :: x182 :: x183 :: x184 :: x185 :: x186 :: x187 :: x188 :: x189 :: x190 :: x191 :: x192 :: x193 :: x194 :: x195 :: x196 :: x197 :: x198 :: x199 :: y200 :: y201 :: y202 :: y203 :: y204 :: y205 :: y206 :: y207 :: y208 :: y209 :: y210 :: y211 :: y212 :: y213 :: y214 :: y215 :: y216 :: y217 :: y218 :: y219 :: y220 :: y221 :: y222 :: y223 :: y224 :: y225 :: y226 :: y227 :: x228 :: x229 :: x230 :: x231 :: x232 :: x233 :: x234 :: x235 :: x236 :: x237 :: x238 :: x239 :: x240 :: x241 :: x242 :: x243 :: x244 :: x245 :: x246 :: x247 :: x248 :: x249 :: x250 :: x251 :: x252 :: x253 :: x254 :: x255 :: x256 :: x257 :: x258 :: x259 :: [])), []⟩ W') :
    Code.wp Try.prog ((Try.f3.body.bind (inBlkV 6)).getD .skip) (Exit.inBlock 6 (Exit.then K Q')) ⟨(List.toArray (x0 :: x1 :: x2 :: (.pointer (some ⟨q, 0, none⟩)) :: x4 :: x5 :: x6 :: x7 :: (.bool okb) :: x9 :: x10 :: x11 :: x12 :: x13 :: x14 :: x15 :: x16 :: x17 :: (.int .i64 0) :: x19 :: x20 :: x21 :: x22 :: x23 :: x24 :: x25 :: x26 :: x27 :: x28 :: x29 :: x30 :: x31 :: x32 :: x33 :: x34 :: x35 :: x36 :: x37 :: x38 :: x39 :: x40 :: x41 :: x42 :: x43 :: x44 :: x45 :: x46 :: x47 :: x48 :: x49 :: x50 :: x51 :: x52 :: x53 :: x54 :: x55 :: x56 :: x57 :: x58 :: x59 :: x60 :: x61 :: x62 :: x63 :: x64 :: x65 :: x66 :: x67 :: x68 :: x69 :: x70 :: x71 :: x72 :: x73 :: x74 :: x75 :: x76 :: x77 :: x78 :: x79 :: x80 :: x81 :: x82 :: x83 :: x84 :: x85 :: x86 :: x87 :: x88 :: x89 :: x90 :: x91 :: x92 :: x93 :: x94 :: x95 :: x96 :: x97 :: x98 :: x99 :: x100 :: x101 :: x102 :: x103 :: x104 :: x105 :: x106 :: x107 :: x108 :: x109 :: x110 :: x111 :: x112 :: x113 :: x114 :: x115 :: x116 :: x117 :: x118 :: x119 :: x120 :: x121 :: x122 :: x123 :: x124 :: x125 :: x126 :: x127 :: x128 :: x129 :: x130 :: x131 :: x132 :: x133 :: x134 :: x135 :: x136 :: x137 :: x138 :: x139 :: x140 :: x141 :: x142 :: x143 :: x144 :: x145 :: x146 :: x147 :: x148 :: x149 :: x150 :: x151 :: x152 :: x153 :: x154 :: x155 :: x156 :: x157 :: x158 :: x159 :: x160 :: x161 :: x162 :: x163 :: x164 :: x165 :: x166 :: x167 :: x168 :: x169 :: x170 :: x171 :: x172 :: x173 :: x174 :: x175 :: x176 :: x177 :: x178 :: x179 :: x180 :: x181 :: x182 :: x183 :: x184 :: x185 :: x186 :: x187 :: x188 :: x189 :: x190 :: x191 :: x192 :: x193 :: x194 :: x195 :: x196 :: x197 :: x198 :: x199 :: x200 :: x201 :: x202 :: x203 :: x204 :: x205 :: x206 :: x207 :: x208 :: x209 :: x210 :: x211 :: x212 :: x213 :: x214 :: x215 :: x216 :: x217 :: x218 :: x219 :: x220 :: x221 :: x222 :: x223 :: x224 :: x225 :: x226 :: x227 :: x228 :: x229 :: x230 :: x231 :: x232 :: x233 :: x234 :: x235 :: x236 :: x237 :: x238 :: x239 :: x240 :: x241 :: x242 :: x243 :: x244 :: x245 :: x246 :: x247 :: x248 :: x249 :: x250 :: x251 :: x252 :: x253 :: x254 :: x255 :: x256 :: x257 :: x258 :: x259 :: [])), []⟩ W := by
  have HC' : Hid _ := HC
  clear HC
  conv => arg 2; whnf
  go_loopw [18] (fun i wr => ∃ j : Nat, j ≤ n1 ∧ i = .int .i64 j ∧ Hid (LB w wr q k fr tt vw nm ix cm bi bv base ao n1 cap E1) ∧ Hid (Below W.heap.size W wr)) (fun i _ => n1 - (intOf i).toNat)
  case atStart => exact ⟨0, Nat.zero_le _, rfl, HL, Below.refl _ _⟩
  case round =>
    obtain ⟨j, hj, rfl, HLr, HBr⟩ := hrel
    have x10' := (vmbox HLr.out.box).2.2.2.2.2.2.2.2.2.2
    by_cases hlt : j < n1
    · have hjI : (j : Int) < n1 := by omega
      have hj0 : (0 : Int) ≤ j := by omega
      cases okb with
      | false =>
        go_wp2
        apply HC'.out _ HBr.out
      | true =>
        have hlt' : j < E1.length := by have := HLr.out.len; omega
        have hnn : (n1 : Int) ≤ cap := by
          obtain ⟨ao', cap', e, h1, -⟩ := HLr.out.ent
          injection e with e1 e2 e3
          have := HLr.out.len
          omega
        obtain ⟨b, off, rfl, c0, c1⟩ : ∃ b off, ao = some ⟨b, off, none⟩ ∧ wr.cell? ⟨b, off + j * 2, none⟩ = some (.int .i64 E1[j].v) ∧ wr.cell? ⟨b, off + j * 2 + 1, none⟩ = some (.string E1[j].s) := by
          obtain ⟨ao', cap', e, -, h2⟩ := HLr.out.ent
          injection e with e1 e2 e3
          subst e1
          obtain ⟨b, off, e, hc⟩ := h2 (by omega)
          exact ⟨b, off, e, hc j hlt'⟩
        have HOk : Hid (0 ≤ E1[j].v ∧ E1[j].v ≤ 2147483647 ∧ E1[j].s.size ≤ 1048576) := ⟨(hok.out rfl _ (List.getElem_mem hlt')).1, (hok.out rfl _ (List.getElem_mem hlt')).2, hbk.out _ (List.getElem_mem hlt')⟩
        obtain ⟨⟨ev, es⟩, he⟩ : ∃ e, E1[j] = e := ⟨_, rfl⟩
        have HOk' : Hid (0 ≤ ev ∧ ev ≤ 2147483647 ∧ es.size ≤ 1048576) := by have := HOk.out; rw [he] at this; exact this
        rw [he] at c0 c1
        simp only at c0 c1
        clear he HOk
        have HPv : Hid ((⟨ev, es⟩ : Ent).v ≤ 9223372036854775807) := by have := HOk'.out; show ev ≤ _; omega
        have HPs : Hid (([] : List UInt8).length + (⟨ev, es⟩ : Ent).s.size + 30 ≤ 140737488355328) := by have := HOk'.out; show 0 + es.size + 30 ≤ _; omega
        go_upto_region 38 with (first
          | (go_at_call 10; refine (newwriter_any _).mono ?_; rintro r w4 ⟨rfl, hw4, hb4⟩; have W4 : Hid _ := hw4; have B4 : Hid _ := hb4; have c04 := (hb4.cell (p := ⟨b, off + j * 2, none⟩) (vlt_cell c0)).trans c0; have c14 := (hb4.cell (p := ⟨b, off + j * 2 + 1, none⟩) (vlt_cell c1)).trans c1; have x104 := (hb4.cell (p := ⟨q, 10, none⟩) (vlt_cell x10')).trans x10'; clear hw4 hb4)
          | (go_at_call 18; refine (putE_w ⟨ev, es⟩ (WTo.refl W4.out) HPv.out HPs.out).mono ?_; rintro r w5 ⟨rfl, v5, hw5, hf5, -⟩; rw [List.nil_append] at hw5; have W5 : Hid _ := hw5; have B5 : Hid _ := vpair B4.out hf5; clear hw5 hf5 c04 c14 x104))
        obtain ⟨Wd, hWd⟩ : ∃ Wd, w5.drew = Wd := ⟨_, rfl⟩
        have bd : Below wr.heap.size wr Wd := by rw [← hWd]; exact Below.drew B5.out
        have bd5 : Below w5.heap.size w5 Wd := by rw [← hWd]; exact Below.drew (Below.refl _ _)
        have y10 := (bd.cell (p := ⟨q, 10, none⟩) (vlt_cell x10')).trans x10'
        have yc0 := (bd.cell (p := ⟨b, off + j * 2, none⟩) (vlt_cell c0)).trans c0
        have yc1 := (bd.cell (p := ⟨b, off + j * 2 + 1, none⟩) (vlt_cell c1)).trans c1
        have WD : Hid (Wr Wd (wr.heap.size + 1) wr.heap.size v5 (entB ⟨ev, es⟩)) := W5.out.newB bd5
        have BD : Hid (Below wr.heap.size wr Wd) := bd
        refine wp_calmV ?_
        refine wp_region_L [] (fun w' : World => w'.cell? ⟨q, 10, none⟩ = some (.slice (some ⟨b, off, none⟩) n1 cap) ∧ w'.cell? ⟨b, (off + j * 2), none⟩ = some (.int .i64 ev) ∧ w'.cell? ⟨b, (off + j * 2 + 1), none⟩ = some (.string es)) (by kernel_rfl) ?_
        rw [hWd]
        have hS : (fun w' : World => w'.cell? ⟨q, 10, none⟩ = some (.slice (some ⟨b, off, none⟩) n1 cap) ∧ w'.cell? ⟨b, (off + j * 2), none⟩ = some (.int .i64 ev) ∧ w'.cell? ⟨b, (off + j * 2 + 1), none⟩ = some (.string es)) Wd := ⟨y10, yc0, yc1⟩
        clear hWd bd bd5 c0 c1 x10' B4 B5 W4 W5
        refine wpAnyL_take (i := 0) 218 (v := .pointer (some ⟨wr.heap.size, 0, none⟩)) rfl rfl (by kernel_rfl) (by kernel_rfl) (by kernel_rfl) (by kernel_rfl) (by kernel_rfl) (by kernel_rfl) (fun _ _ _ h => h) hS (by rfl) (by intro w' hSw; obtain ⟨y0, y1, y2⟩ := hSw; go_simp <;> with_reducible rfl) ?_
        simp only [Act.put, List.setIfInBounds_toArray, List.set_cons_zero, List.set_cons_succ]
        refine wpAnyL_take (i := 4) 222 (v := .pointer (some ⟨q, 10, none⟩)) rfl rfl (by kernel_rfl) (by kernel_rfl) (by kernel_rfl) (by kernel_rfl) (by kernel_rfl) (by kernel_rfl) (fun _ _ _ h => h) hS (by rfl) (by intro w' hSw; obtain ⟨y0, y1, y2⟩ := hSw; go_simp <;> with_reducible rfl) ?_
        simp only [Act.put, List.setIfInBounds_toArray, List.set_cons_zero, List.set_cons_succ]
        refine wpAnyL_take (i := 5) 223 (v := .slice (some ⟨b, off, none⟩) n1 cap) rfl rfl (by kernel_rfl) (by kernel_rfl) (by kernel_rfl) (by kernel_rfl) (by kernel_rfl) (by kernel_rfl) (fun _ _ _ h => h) hS (by rfl) (by intro w' hSw; obtain ⟨y0, y1, y2⟩ := hSw; go_simp <;> with_reducible rfl) ?_
        simp only [Act.put, List.setIfInBounds_toArray, List.set_cons_zero, List.set_cons_succ]
        refine wpAnyL_take (i := 6) 224 (v := .int .i64 (j : Int)) rfl rfl (by kernel_rfl) (by kernel_rfl) (by kernel_rfl) (by kernel_rfl) (by kernel_rfl) (by kernel_rfl) (fun _ _ _ h => h) hS (by rfl) (by intro w' hSw; obtain ⟨y0, y1, y2⟩ := hSw; go_simp <;> with_reducible rfl) ?_
        simp only [Act.put, List.setIfInBounds_toArray, List.set_cons_zero, List.set_cons_succ]
        refine wpAnyL_take (i := 7) 225 (v := .pointer (some ⟨b, (off + j * 2), none⟩)) rfl rfl (by kernel_rfl) (by kernel_rfl) (by kernel_rfl) (by kernel_rfl) (by kernel_rfl) (by kernel_rfl) (fun _ _ _ h => h) hS (by rfl) (by intro w' hSw; obtain ⟨y0, y1, y2⟩ := hSw; go_simp <;> with_reducible rfl) ?_
        simp only [Act.put, List.setIfInBounds_toArray, List.set_cons_zero, List.set_cons_succ]
        refine wpAnyL_take (i := 8) 226 (v := .agg #[.int .i64 ev, .string es]) rfl rfl (by kernel_rfl) (by kernel_rfl) (by kernel_rfl) (by kernel_rfl) (by kernel_rfl) (by kernel_rfl) (fun _ _ _ h => h) hS (by rfl) (by intro w' hSw; obtain ⟨y0, y1, y2⟩ := hSw; go_simp <;> with_reducible rfl) ?_
        simp only [Act.put, List.setIfInBounds_toArray, List.set_cons_zero, List.set_cons_succ]
        refine wpAnyL_one (i := 1) (by kernel_rfl) rfl (fun Ka hKa => ?_)
        go_simp
        refine Calls.mono (wall_any WD.out) ?_
        rintro r wz ⟨rfl, hz⟩
        rw [hz]
        refine hKa.out _ _ (fun _ => hS) ?_
        clear hKa Ka hz
        try simp only [Act.put, List.setIfInBounds_toArray, List.set_cons_zero, List.set_cons_succ]
        refine wpAnyL_one (i := 2) (by kernel_rfl) rfl (fun Ka hKa => ?_)
        go_simp
        refine Calls.mono (newreader_any _ _) ?_
        rintro r w6 ⟨rfl, hr6, hb6⟩
        have z10 := (hb6.cell (p := ⟨q, 10, none⟩) (vlt_cell y10)).trans y10
        have zc0 := (hb6.cell (p := ⟨b, off + j * 2, none⟩) (vlt_cell yc0)).trans yc0
        have zc1 := (hb6.cell (p := ⟨b, off + j * 2 + 1, none⟩) (vlt_cell yc1)).trans yc1
        have hS6 : (fun w' : World => w'.cell? ⟨q, 10, none⟩ = some (.slice (some ⟨b, off, none⟩) n1 cap) ∧ w'.cell? ⟨b, (off + j * 2), none⟩ = some (.int .i64 ev) ∧ w'.cell? ⟨b, (off + j * 2 + 1), none⟩ = some (.string es)) w6 := ⟨z10, zc0, zc1⟩
        refine hKa.out _ _ (fun _ => hS6) ?_
        clear hKa Ka
        try simp only [Act.put, List.setIfInBounds_toArray, List.set_cons_zero, List.set_cons_succ]
        refine wpAnyL_one (i := 3) (by kernel_rfl) rfl (fun Ka hKa => ?_)
        go_simp
        refine Calls.mono (take_ent ⟨ev, es⟩ hr6 ⟨HOk'.out.1, HOk'.out.2.1⟩ HOk'.out.2.2) ?_
        rintro r w7 ⟨rfl, hf7⟩
        have hb7 : Below Wd.heap.size Wd w7 := hb6.trans (hf7.below hb6.size (fun k hk => by rw [hk]; exact Nat.le_refl _))
        have u10 := (hb7.cell (p := ⟨q, 10, none⟩) (vlt_cell y10)).trans y10
        have uc0 := (hb7.cell (p := ⟨b, off + j * 2, none⟩) (vlt_cell yc0)).trans yc0
        have uc1 := (hb7.cell (p := ⟨b, off + j * 2 + 1, none⟩) (vlt_cell yc1)).trans yc1
        have hS7 : (fun w' : World => w'.cell? ⟨q, 10, none⟩ = some (.slice (some ⟨b, off, none⟩) n1 cap) ∧ w'.cell? ⟨b, (off + j * 2), none⟩ = some (.int .i64 ev) ∧ w'.cell? ⟨b, (off + j * 2 + 1), none⟩ = some (.string es)) w7 := ⟨u10, uc0, uc1⟩
        refine hKa.out _ _ (fun _ => hS7) ?_
        clear hKa Ka
        try simp only [Act.put, List.setIfInBounds_toArray, List.set_cons_zero, List.set_cons_succ]
        refine wpAnyL_one (i := 9) (by kernel_rfl) rfl (fun Ka hKa => ?_)
        go_simp
        refine hKa.out _ _ (fun _ => hS7) ?_
        clear hKa Ka
        try simp only [Act.put, List.setIfInBounds_toArray, List.set_cons_zero, List.set_cons_succ]
        refine wpAnyL_done (by kernel_rfl) ?_ _
        have HL7 : Hid (LB w w7 q k fr tt vw nm ix cm bi bv base (some ⟨b, off, none⟩) n1 cap E1) := HLr.out.new (BD.out.trans (hb7.mono BD.out.size))
        have HB7 : Hid (Below W.heap.size W w7) := bel2 HBr.out (BD.out.trans (hb7.mono BD.out.size))
        clear hS hS6 hS7 y10 yc0 yc1 z10 zc0 zc1 u10 uc0 uc1 hr6 hb6 hf7 hb7 BD WD
        go_wp2
        go_roundw
        case rel => exact ⟨j + 1, by omega, by go_num, HL7, HB7⟩
        case measure => simp [intOf]; omega
    · have hjI : (n1 : Int) ≤ j := by omega
      go_wp2
      apply HC'.out _ HBr.out
end Go.Proofs.Ytckjjajncgmddaa
