import Derived.Test.YtckjjajncgmddaaVb26M
/- ViewBytes: the wanted text: its entries. -/
namespace Go.Proofs.Ytckjjajncgmddaa
open Go.RowKit
attribute [local go_sem] Oper.semAt_some
set_option linter.unusedSimpArgs false in
set_option maxRecDepth 100000 in
set_option maxHeartbeats 8000000 in
theorem vb24 {W : World} {q : Nat} {ao : Option Addr} {n1 cap : Nat} {E1 : List Ent} {pre : List UInt8} {x0 x1 x2 x4 x5 x6 x7 x8 x9 x10 x12 x13 x15 x16 x17 x18 x19 x20 x21 x22 x23 x24 x25 x26 x27 x28 x29 x30 x31 x32 x33 x34 x35 x36 x37 x38 x39 x40 x41 x42 x43 x44 x45 x46 x47 x48 x49 x50 x51 x52 x53 x54 x55 x56 x57 x58 x59 x60 x61 x62 x63 x64 x65 x66 x67 x68 x69 x70 x71 x72 x73 x74 x75 x76 x77 x78 x79 x80 x81 x82 x83 x84 x85 x86 x87 x88 x89 x90 x91 x92 x93 x94 x95 x96 x97 x98 x99 x100 x101 x102 x103 x104 x105 x106 x107 x108 x109 x110 x111 x112 x113 x114 x115 x116 x117 x118 x119 x120 x121 x122 x123 x124 x125 x126 x127 x128 x129 x130 x131 x132 x133 x134 x135 x136 x137 x138 x139 x140 x141 x142 x143 x144 x145 x146 x147 x148 x149 x150 x151 x152 x153 x154 x155 x156 x157 x158 x159 x160 x161 x162 x163 x164 x165 x166 x167 x168 x169 x170 x171 x172 x173 x174 x175 x176 x177 x178 x179 x180 x181 x182 x183 x184 x185 x186 x187 x188 x189 x190 x191 x192 x193 x194 x195 x196 x197 x198 x199 x200 x201 x202 x203 x204 x205 x206 x207 x208 x209 x210 x211 x212 x213 x214 x215 x216 x217 x218 x219 x220 x221 x222 x223 x224 x225 x226 x227 x228 x229 x230 x231 x232 x233 x234 x235 x236 x237 x238 x239 x240 x241 x242 x243 x244 x245 x246 x247 x248 x249 x250 x251 x252 x253 x254 x255 x256 x257 x258 x259 : Value} {K : Act → World → Prop} {Q' : Exit → Act → World → Prop} (c10 : W.cell? ⟨q, 10, none⟩ = some (.slice ao n1 cap)) (HE : Hid (EnS W (.slice ao n1 cap) E1)) (hlen : E1.length = n1) (hn1 : n1 ≤ 1001) (HV : Hid (∀ x ∈ E1, 0 ≤ x.v ∧ x.v ≤ 2147483647)) (HS : Hid (∀ x ∈ E1, x.s.size ≤ 1048576)) (HR : Hid (pre.length + entsN E1 ≤ 1000000000))
    (HC : ∀ (W' : World), Below W.heap.size W W' → ∀ (y14 y152 y153 y154 y155 y156 y157 y158 y159 y160 y161 y162 y163 y164 y165 y166 y167 y168 y169 y170 y171 y172 y173 y174 y175 y176 : Value), K ⟨(List.toArray (x0 :: x1 :: x2 :: (.pointer (some ⟨q, 0, none⟩)) :: x4 :: x5 :: x6 :: x7 :: x8 :: x9 :: x10 :: (.string (str (pre ++ E1.flatMap entB))) :: x12 :: x13 :: y14 :: x15 :: x16 :: x17 :: x18 :: x19 :: x20 :: x21 :: x22 :: x23 :: x24 :: x25 :: x26 :: x27 :: x28 :: x29 :: x30 :: x31 :: x32 :: x33 :: x34 :: x35 :: x36 :: x37 :: x38 :: x39 :: x40 :: x41 :: x42 :: x43 :: x44 :: x45 :: x46 :: x47 :: x48 :: x49 :: x50 :: x51 :: x52 :: x53 :: x54 :: x55 :: x56 :: x57 :: x58 :: x59 :: x60 :: x61 :: x62 :: x63 :: x64 :: x65 :: x66 :: x67 :: x68 :: x69 :: x70 :: x71 :: x72 :: x73 :: x74 :: x75 :: x76 :: x77 :: x78 :: x79 :: x80 :: x81 :: x82 :: x83 :: x84 :: x85 :: x86 :: x87 :: x88 :: x89 :: x90 :: x91 :: x92 :: x93 :: x94 :: x95 :: x96 :: x97 :: x98 :: x99 :: x100 :: x101 :: x102 :: x103 :: x104 :: x105 :: x106 :: x107 :: x108 :: x109 :: x110 :: x111 :: x112 :: x113 :: x114 :: x115 :: x116 :: x117 :: x118 :: x119 :: x120 :: x121 :: x122 :: x123 :: x124 :: x125 :: x126 :: x127 :: x128 :: x129 :: x130 :: x131 :: x132 :: x133 :: x134 :: x135 :: x136 :: x137 :: x138 :: x139 :: x140 :: x141 :: x142 :: x143 :: x144 :: x145 :: x146 :: x147 :: x148 :: x149 :: x150 :: x151 :: y152 :: y153 :: y154 :: y155 :: y156 :: y157 :: y158 :: y159 :: y160 :: y161 :: y162 :: y163 :: y164 :: y165 :: y166 :: y167 :: y168 :: y169 :: y170 :: y171 :: y172 :: y173 :: y174 :: y175 :: y176 :: x177 :: x178 :: x179 :: x180 :: x181 :: x182 :: x183 :: x184 :: x185 :: x186 :: x187 :: x188 :: x189 :: x190 :: x191 :: x192 :: x193 :: x194 :: x195 :: x196 :: x197 :: x198 :: x199 :: x200 :: x201 :: x202 :: x203 :: x204 :: x205 :: x206 :: x207 :: x208 :: x209 :: x210 :: x211 :: x212 :: x213 :: x214 :: x215 :: x216 :: x217 :: x218 :: x219 :: x220 :: x221 :: x222 :: x223 :: x224 :: x225 :: x226 :: x227 :: x228 :: x229 :: x230 :: x231 :: x232 :: x233 :: x234 :: x235 :: x236 :: x237 :: x238 :: x239 :: x240 :: x241 :: x242 :: x243 :: x244 :: x245 :: x246 :: x247 :: x248 :: x249 :: x250 :: x251 :: x252 :: x253 :: x254 :: x255 :: x256 :: x257 :: x258 :: x259 :: [])), []⟩ W') :
    Code.wp Try.prog ((Try.f3.body.bind (inBlkV 4)).getD .skip) (Exit.inBlock 4 (Exit.then K Q')) ⟨(List.toArray (x0 :: x1 :: x2 :: (.pointer (some ⟨q, 0, none⟩)) :: x4 :: x5 :: x6 :: x7 :: x8 :: x9 :: x10 :: (.string (str pre)) :: x12 :: x13 :: (.int .i64 0) :: x15 :: x16 :: x17 :: x18 :: x19 :: x20 :: x21 :: x22 :: x23 :: x24 :: x25 :: x26 :: x27 :: x28 :: x29 :: x30 :: x31 :: x32 :: x33 :: x34 :: x35 :: x36 :: x37 :: x38 :: x39 :: x40 :: x41 :: x42 :: x43 :: x44 :: x45 :: x46 :: x47 :: x48 :: x49 :: x50 :: x51 :: x52 :: x53 :: x54 :: x55 :: x56 :: x57 :: x58 :: x59 :: x60 :: x61 :: x62 :: x63 :: x64 :: x65 :: x66 :: x67 :: x68 :: x69 :: x70 :: x71 :: x72 :: x73 :: x74 :: x75 :: x76 :: x77 :: x78 :: x79 :: x80 :: x81 :: x82 :: x83 :: x84 :: x85 :: x86 :: x87 :: x88 :: x89 :: x90 :: x91 :: x92 :: x93 :: x94 :: x95 :: x96 :: x97 :: x98 :: x99 :: x100 :: x101 :: x102 :: x103 :: x104 :: x105 :: x106 :: x107 :: x108 :: x109 :: x110 :: x111 :: x112 :: x113 :: x114 :: x115 :: x116 :: x117 :: x118 :: x119 :: x120 :: x121 :: x122 :: x123 :: x124 :: x125 :: x126 :: x127 :: x128 :: x129 :: x130 :: x131 :: x132 :: x133 :: x134 :: x135 :: x136 :: x137 :: x138 :: x139 :: x140 :: x141 :: x142 :: x143 :: x144 :: x145 :: x146 :: x147 :: x148 :: x149 :: x150 :: x151 :: x152 :: x153 :: x154 :: x155 :: x156 :: x157 :: x158 :: x159 :: x160 :: x161 :: x162 :: x163 :: x164 :: x165 :: x166 :: x167 :: x168 :: x169 :: x170 :: x171 :: x172 :: x173 :: x174 :: x175 :: x176 :: x177 :: x178 :: x179 :: x180 :: x181 :: x182 :: x183 :: x184 :: x185 :: x186 :: x187 :: x188 :: x189 :: x190 :: x191 :: x192 :: x193 :: x194 :: x195 :: x196 :: x197 :: x198 :: x199 :: x200 :: x201 :: x202 :: x203 :: x204 :: x205 :: x206 :: x207 :: x208 :: x209 :: x210 :: x211 :: x212 :: x213 :: x214 :: x215 :: x216 :: x217 :: x218 :: x219 :: x220 :: x221 :: x222 :: x223 :: x224 :: x225 :: x226 :: x227 :: x228 :: x229 :: x230 :: x231 :: x232 :: x233 :: x234 :: x235 :: x236 :: x237 :: x238 :: x239 :: x240 :: x241 :: x242 :: x243 :: x244 :: x245 :: x246 :: x247 :: x248 :: x249 :: x250 :: x251 :: x252 :: x253 :: x254 :: x255 :: x256 :: x257 :: x258 :: x259 :: [])), []⟩ W := by
  have HC' : Hid _ := HC
  clear HC
  conv => arg 2; whnf
  go_loopw [11, 14] (fun o i wr => ∃ j : Nat, j ≤ n1 ∧ i = .int .i64 j ∧ o = .string (str (pre ++ (E1.take j).flatMap entB)) ∧ Hid (Below W.heap.size W wr)) (fun _ i _ => n1 - (intOf i).toNat)
  case atStart => exact ⟨0, Nat.zero_le _, rfl, by rw [List.take_zero, List.flatMap_nil, List.append_nil], Below.refl _ _⟩
  case round =>
    obtain ⟨j, hj, rfl, rfl, HB⟩ := hrel
    by_cases hlt : j < n1
    · have hjI : (j : Int) < n1 := by omega
      have hlt' : j < E1.length := by have := hlen; omega
      have hj0 : (0 : Int) ≤ j := by omega
      obtain ⟨b, off, rfl, c0, c1⟩ : ∃ b off, ao = some ⟨b, off, none⟩ ∧ wr.cell? ⟨b, off + j * 2, none⟩ = some (.int .i64 E1[j].v) ∧ wr.cell? ⟨b, off + j * 2 + 1, none⟩ = some (.string E1[j].s) := by
        obtain ⟨ao', cap', e, -, h2⟩ := HE.out.new HB.out
        injection e with e1 e2 e3
        subst e1
        obtain ⟨b, off, e, hc⟩ := h2 (by omega)
        exact ⟨b, off, e, hc j hlt'⟩
      have x10' := (HB.out.cell (p := ⟨q, 10, none⟩) (vlt_cell c10)).trans c10
      have HSn : Hid _ := entsB_snoc E1 j hlt'
      have HX : Hid (0 ≤ E1[j].v ∧ E1[j].v ≤ 2147483647) := HV.out _ (List.getElem_mem hlt')
      have HXs : Hid (E1[j].s.size ≤ 1048576) := HS.out _ (List.getElem_mem hlt')
      have HRj : Hid ((pre ++ (E1.take j).flatMap entB).length ≤ 1000000000) := by
        show _ ≤ _
        have h0 := HR.out
        have h1 := ents_take E1 (fun x hx => Int.le_trans (HV.out x hx).2 (by decide)) (by omega) j (by omega)
        have h3 := entsN_take E1 j hlt'
        rw [List.length_append]
        omega
      obtain ⟨⟨ev, es⟩, he⟩ : ∃ e, E1[j] = e := ⟨_, rfl⟩
      rw [he] at c0 c1 HSn HX HXs
      simp only at c0 c1
      clear he
      obtain ⟨pj, hpj⟩ : ∃ pj, pre ++ (E1.take j).flatMap entB = pj := ⟨_, rfl⟩
      have HPj : Hid (pj ++ (numB ev.toNat ++ textB es.data.toList) = pre ++ (E1.take (j + 1)).flatMap entB) := by
        show _ = _
        rw [HSn.out, ← hpj, List.append_assoc]
        rfl
      rw [hpj] at HRj ⊢
      clear hpj
      go_upto_region 26 with (fail)
      refine vb26r x10' c0 c1 hlt HX.out HXs.out HRj.out ?_
      rintro w4 r hr hb4 y159 y160 y161 y162 y163 y164 y165 y166 y167 y168 y169 y170 y171 y172 y173 y174 y175 y176
      subst hr
      rw [HPj.out]
      simp only [Exit.inBlock, Exit.then]
      have B4 : Hid _ := HB.out.trans (hb4.mono HB.out.size)
      clear hb4
      go_wp2
      go_roundw
      case rel => exact ⟨j + 1, by omega, by go_num, rfl, B4⟩
      case measure => simp [intOf]; omega
    · have hjI : (n1 : Int) ≤ j := by omega
      have hjj : E1.take j = E1 := by rw [List.take_of_length_le]; omega
      have x10' := (HB.out.cell (p := ⟨q, 10, none⟩) (vlt_cell c10)).trans c10
      rw [hjj]
      clear hjj
      go_wp2
      apply HC'.out _ HB.out
end Go.Proofs.Ytckjjajncgmddaa
