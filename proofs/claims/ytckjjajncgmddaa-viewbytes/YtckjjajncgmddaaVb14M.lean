import Derived.Test.YtckjjajncgmddaaVb27M
import Derived.Test.YtckjjajncgmddaaVb24M
import Derived.Test.YtckjjajncgmddaaVb22M
import Derived.Test.YtckjjajncgmddaaVb18M
/- ViewBytes: a message that may be is put, and taken again. -/
namespace Go.Proofs.Ytckjjajncgmddaa
open Go.RowKit
attribute [local go_sem] Oper.semAt_some
set_option linter.unusedSimpArgs false in
set_option maxRecDepth 100000 in
set_option maxHeartbeats 8000000 in
theorem vb14 {w W : World} {q : Nat} {k fr tt vw nm ix cm bi bv : Int} {base : ByteArray} {ao : Option Addr} {n1 cap : Nat} {E1 : List Ent} {x0 x1 x2 x4 x5 x6 x7 x8 x9 x10 x11 x12 x13 x14 x15 x16 x17 x18 x19 x20 x21 x22 x23 x24 x25 x26 x27 x28 x29 x30 x31 x32 x33 x34 x35 x36 x37 x38 x39 x40 x41 x42 x43 x44 x45 x46 x47 x48 x49 x50 x51 x52 x53 x54 x55 x56 x57 x58 x59 x60 x61 x62 x63 x64 x65 x66 x67 x68 x69 x70 x71 x72 x73 x74 x75 x76 x77 x78 x79 x80 x81 x82 x83 x84 x85 x86 x87 x88 x89 x90 x91 x92 x93 x94 x95 x96 x97 x98 x99 x100 x101 x102 x103 x104 x105 x106 x107 x108 x109 x110 x111 x112 x113 x114 x115 x116 x117 x118 x119 x120 x121 x122 x123 x124 x125 x126 x127 x128 x129 x130 x131 x132 x133 x134 x135 x136 x137 x138 x139 x140 x141 x142 x143 x144 x145 x146 x147 x148 x149 x150 x151 x152 x153 x154 x155 x156 x157 x158 x159 x160 x161 x162 x163 x164 x165 x166 x167 x168 x169 x170 x171 x172 x173 x174 x175 x176 x177 x178 x179 x180 x181 x182 x183 x184 x185 x186 x187 x188 x189 x190 x191 x192 x193 x194 x195 x196 x197 x198 x199 x200 x201 x202 x203 x204 x205 x206 x207 x208 x209 x210 x211 x212 x213 x214 x215 x216 x217 x218 x219 x220 x221 x222 x223 x224 x225 x226 x227 x228 x229 x230 x231 x232 x233 x234 x235 x236 x237 x238 x239 x240 x241 x242 x243 x244 x245 x246 x247 x248 x249 x250 x251 x252 x253 x254 x255 x256 x257 x258 x259 : Value} {K : Act → World → Prop} {Q' : Exit → Act → World → Prop} (HL : Hid (LB w W q k fr tt vw nm ix cm bi bv base ao n1 cap E1)) (HM : Hid (∀ x ∈ VM.nums ⟨k, fr, tt, vw, nm, ix, cm, bi, bv, base, E1⟩, 0 ≤ x ∧ x ≤ 2147483647)) (HV : Hid (∀ x ∈ E1, 0 ≤ x.v ∧ x.v ≤ 2147483647)) (HS : Hid (∀ x ∈ E1, x.s.size ≤ 1048576)) (hl : E1.length ≤ 1000) (hbase : base.size ≤ 1048576) (HR : Hid (entsN E1 ≤ 900000000))
    (HC : ∀ (W' : World), Below W.heap.size W W' → ∀ (y6 y10 y11 y13 y14 y15 y16 y17 y124 y125 y126 y127 y128 y129 y130 y131 y132 y133 y134 y135 y136 y137 y138 y139 y140 y141 y142 y143 y144 y145 y146 y147 y148 y149 y150 y151 y152 y153 y154 y155 y156 y157 y158 y159 y160 y161 y162 y163 y164 y165 y166 y167 y168 y169 y170 y171 y172 y173 y174 y175 y176 y177 y178 y179 y180 y181 y182 y183 y184 y185 y186 y187 y188 y189 y190 y191 y192 y193 y194 y195 y196 y197 y198 y199 : Value), K ⟨(List.toArray (x0 :: x1 :: x2 :: (.pointer (some ⟨q, 0, none⟩)) :: x4 :: x5 :: y6 :: x7 :: x8 :: x9 :: y10 :: y11 :: x12 :: y13 :: y14 :: y15 :: y16 :: y17 :: x18 :: x19 :: x20 :: x21 :: x22 :: x23 :: x24 :: x25 :: x26 :: x27 :: x28 :: x29 :: x30 :: x31 :: x32 :: x33 :: x34 :: x35 :: x36 :: x37 :: x38 :: x39 :: x40 :: x41 :: x42 :: x43 :: x44 :: x45 :: x46 :: x47 :: x48 :: x49 :: x50 :: x51 :: x52 :: x53 :: x54 :: x55 :: x56 :: x57 :: x58 :: x59 :: x60 :: x61 :: x62 :: x63 :: x64 :: x65 :: x66 :: x67 :: x68 :: x69 :: x70 :: x71 :: x72 :: x73 :: x74 :: x75 :: x76 :: x77 :: x78 :: x79 :: x80 :: x81 :: x82 :: x83 :: x84 :: x85 :: x86 :: x87 :: x88 :: x89 :: x90 :: x91 :: x92 :: x93 :: x94 :: x95 :: x96 :: x97 :: x98 :: x99 :: x100 :: x101 :: x102 :: x103 :: x104 :: x105 :: x106 :: x107 :: x108 :: x109 :: x110 :: x111 :: x112 :: x113 :: x114 :: x115 :: x116 :: x117 :: x118 :: x119 :: x120 :: x121 :: x122 :: x123 :: y124 :: y125 :: y126 :: y127 :: y128 :: y129 :: y130 :: y131 :: y132 :: y133 :: y134 :: y135 :: y136 :: y137 :: y138 :: y139 :: y140 :: y141 :: y142 :: y143 :: y144 :: y145 :: y146 :: y147 :: y148 :: y149 :: y150 :: y151 :: y152 :: y153 :: y154 :: y155 :: y156 :: y157 :: y158 :: y159 :: y160 :: y161 :: y162 :: y163 :: y164 :: y165 :: y166 :: y167 :: y168 :: y169 :: y170 :: y171 :: y172 :: y173 :: y174 :: y175 :: y176 :: y177 :: y178 :: y179 :: y180 :: y181 :: y182 :: y183 :: y184 :: y185 :: y186 :: y187 :: y188 :: y189 :: y190 :: y191 :: y192 :: y193 :: y194 :: y195 :: y196 :: y197 :: y198 :: y199 :: x200 :: x201 :: x202 :: x203 :: x204 :: x205 :: x206 :: x207 :: x208 :: x209 :: x210 :: x211 :: x212 :: x213 :: x214 :: x215 :: x216 :: x217 :: x218 :: x219 :: x220 :: x221 :: x222 :: x223 :: x224 :: x225 :: x226 :: x227 :: x228 :: x229 :: x230 :: x231 :: x232 :: x233 :: x234 :: x235 :: x236 :: x237 :: x238 :: x239 :: x240 :: x241 :: x242 :: x243 :: x244 :: x245 :: x246 :: x247 :: x248 :: x249 :: x250 :: x251 :: x252 :: x253 :: x254 :: x255 :: x256 :: x257 :: x258 :: x259 :: [])), []⟩ W') :
    Code.wp Try.prog ((Try.f3.body.bind (fromRV 14)).getD .skip) (Exit.then K Q') ⟨(List.toArray (x0 :: x1 :: x2 :: (.pointer (some ⟨q, 0, none⟩)) :: x4 :: x5 :: x6 :: x7 :: x8 :: x9 :: x10 :: x11 :: x12 :: x13 :: x14 :: x15 :: x16 :: x17 :: x18 :: x19 :: x20 :: x21 :: x22 :: x23 :: x24 :: x25 :: x26 :: x27 :: x28 :: x29 :: x30 :: x31 :: x32 :: x33 :: x34 :: x35 :: x36 :: x37 :: x38 :: x39 :: x40 :: x41 :: x42 :: x43 :: x44 :: x45 :: x46 :: x47 :: x48 :: x49 :: x50 :: x51 :: x52 :: x53 :: x54 :: x55 :: x56 :: x57 :: x58 :: x59 :: x60 :: x61 :: x62 :: x63 :: x64 :: x65 :: x66 :: x67 :: x68 :: x69 :: x70 :: x71 :: x72 :: x73 :: x74 :: x75 :: x76 :: x77 :: x78 :: x79 :: x80 :: x81 :: x82 :: x83 :: x84 :: x85 :: x86 :: x87 :: x88 :: x89 :: x90 :: x91 :: x92 :: x93 :: x94 :: x95 :: x96 :: x97 :: x98 :: x99 :: x100 :: x101 :: x102 :: x103 :: x104 :: x105 :: x106 :: x107 :: x108 :: x109 :: x110 :: x111 :: x112 :: x113 :: x114 :: x115 :: x116 :: x117 :: x118 :: x119 :: x120 :: x121 :: x122 :: x123 :: x124 :: x125 :: x126 :: x127 :: x128 :: x129 :: x130 :: x131 :: x132 :: x133 :: x134 :: x135 :: x136 :: x137 :: x138 :: x139 :: x140 :: x141 :: x142 :: x143 :: x144 :: x145 :: x146 :: x147 :: x148 :: x149 :: x150 :: x151 :: x152 :: x153 :: x154 :: x155 :: x156 :: x157 :: x158 :: x159 :: x160 :: x161 :: x162 :: x163 :: x164 :: x165 :: x166 :: x167 :: x168 :: x169 :: x170 :: x171 :: x172 :: x173 :: x174 :: x175 :: x176 :: x177 :: x178 :: x179 :: x180 :: x181 :: x182 :: x183 :: x184 :: x185 :: x186 :: x187 :: x188 :: x189 :: x190 :: x191 :: x192 :: x193 :: x194 :: x195 :: x196 :: x197 :: x198 :: x199 :: x200 :: x201 :: x202 :: x203 :: x204 :: x205 :: x206 :: x207 :: x208 :: x209 :: x210 :: x211 :: x212 :: x213 :: x214 :: x215 :: x216 :: x217 :: x218 :: x219 :: x220 :: x221 :: x222 :: x223 :: x224 :: x225 :: x226 :: x227 :: x228 :: x229 :: x230 :: x231 :: x232 :: x233 :: x234 :: x235 :: x236 :: x237 :: x238 :: x239 :: x240 :: x241 :: x242 :: x243 :: x244 :: x245 :: x246 :: x247 :: x248 :: x249 :: x250 :: x251 :: x252 :: x253 :: x254 :: x255 :: x256 :: x257 :: x258 :: x259 :: [])), []⟩ W := by
  have HC' : Hid _ := HC
  clear HC
  have HPut : Hid (0 + base.size + entsN E1 + 200 ≤ 1000000000) := by show _ ≤ _; have := HR.out; omega
  have hn1 : n1 ≤ 1000 := by have := HL.out.len; omega
  have HE0 : Hid (EnS W (.slice ao E1.length cap) E1) := by have := HL.out.ent; rw [← HL.out.len] at this; exact this
  have HBx : Hid (W.heap[q]? = some (.cells #[.int .i64 k, .int .i64 fr, .int .i64 tt, .int .i64 vw, .int .i64 nm, .int .i64 ix, .int .i64 cm, .int .i64 bi, .int .i64 bv, .string base, .slice ao E1.length cap] 24 (0, 0))) := by have := HL.out.box; rw [← HL.out.len] at this; exact this
  have tk1 : Hid True := trivial
  have HSn : Hid _ := HL.out.len
  conv => arg 2; whnf
  go_wp2_with (first
    | (go_at_call 10; refine (newwriter_any _).mono ?_; rintro r w1 ⟨rfl, hw1, hb1⟩; have W1 : Hid _ := hw1; have B1 : Hid _ := hb1; have HBx1 : Hid _ := (hb1.block q (vlt_blk HBx.out)).trans HBx.out; clear hw1 hb1)
    | (have _t := tk1; refine wpList_load_row rfl 24 _ rfl q rfl 24 #[.int .i64 k, .int .i64 fr, .int .i64 tt, .int .i64 vw, .int .i64 nm, .int .i64 ix, .int .i64 cm, .int .i64 bi, .int .i64 bv, .string base, .slice ao E1.length cap] (0, 0) _ HBx1.out Try.underlying24 rfl size_vm ?_; clear tk1)
    | (go_at_call 11; refine (put_any ⟨k, fr, tt, vw, nm, ix, cm, bi, bv, base, E1⟩ cap W1.out (vput_s HE0.out B1.out) (fun x hx => Int.le_trans (HM.out x hx).2 (by decide)) (fun x hx => Int.le_trans (HV.out x hx).2 (by decide)) (Nat.le_trans hl (by decide)) HPut.out).mono ?_; rintro r w2 ⟨rfl, v2, hw2, hf2, -⟩; rw [List.nil_append] at hw2; have W2 : Hid (Wr w2 (W.heap.size + 1) W.heap.size v2 (vmB ⟨k, fr, tt, vw, nm, ix, cm, bi, bv, base, E1⟩)) := hw2; have B2 : Hid (Below W.heap.size W w2) := vpair B1.out hf2; have HBx2 : Hid _ := ((vpair B1.out hf2).block q (vlt_blk HBx.out)).trans HBx.out; clear hw2 hf2)
    | (refine wpList_load_row rfl 24 _ rfl q rfl 24 #[.int .i64 k, .int .i64 fr, .int .i64 tt, .int .i64 vw, .int .i64 nm, .int .i64 ix, .int .i64 cm, .int .i64 bi, .int .i64 bv, .string base, .slice ao E1.length cap] (0, 0) _ HBx2.out Try.underlying24 rfl size_vm ?_)
    | (go_at_call 7; refine (all_nine w2 k fr tt vw nm ix cm bi bv base ao E1.length cap).mono ?_; rintro r w3 ⟨g, rfl, hb3, hc3⟩; have B3 : Hid (Below w2.heap.size w2 w3) := hb3; have HC3 : Hid _ := hc3; clear hb3 hc3))
  refine vb18 (L := [k, fr, tt, vw, nm, ix, cm, bi, bv]) HC3 rfl HM ?_
  rintro w4 hb4 y13 y131 y132 y133 y134 y135 y136 y137 y138 y139 y140
  have B4 : Hid (Below w2.heap.size w2 w4) := B3.out.trans (hb4.mono B3.out.size)
  clear hb4
  have hl4 := HL.out.new (B2.out.trans (B4.out.mono B2.out.size))
  have HL4 : Hid _ := hl4
  have c9 := (vmbox hl4.box).2.2.2.2.2.2.2.2.2.1
  have c10 := (vmbox hl4.box).2.2.2.2.2.2.2.2.2.2
  have hnl : (numsB [k, fr, tt, vw, nm, ix, cm, bi, bv]).length ≤ 90 := numsB_len _ (fun x hx => Int.le_trans (HM.out x hx).2 (by decide))
  have HNl : Hid _ := hnl
  clear hl4 B3
  go_upto_region 22 with (fail)
  refine vb22r c9 c10 (Nat.le_trans hn1 (by decide)) hbase (by have := HNl.out; omega) ?_
  rintro w5 r hr hb5 y141 y142 y143 y144 y145 y146 y147 y148 y149 y150 y151
  subst hr
  have B5 : Hid (Below w2.heap.size w2 w5) := B4.out.trans (hb5.mono B4.out.size)
  have HL5 : Hid (LB w w5 q k fr tt vw nm ix cm bi bv base ao n1 cap E1) := HL4.out.new hb5
  have d10 := (vmbox HL5.out.box).2.2.2.2.2.2.2.2.2.2
  have HPl : Hid ((numsB [k, fr, tt, vw, nm, ix, cm, bi, bv] ++ (textB base.data.toList ++ numB n1)).length + entsN E1 ≤ 1000000000) := by
    show _ ≤ _
    have h1 := HNl.out
    have h2 := (textB_len base (by omega)).1
    have h3 := numB_len10 (n := n1) (by omega)
    have h4 := HR.out
    simp only [List.length_append]
    omega
  have HVm : Hid (numsB [k, fr, tt, vw, nm, ix, cm, bi, bv] ++ (textB base.data.toList ++ numB n1) ++ E1.flatMap entB = vmB ⟨k, fr, tt, vw, nm, ix, cm, bi, bv, base, E1⟩) := by
    show _ = _
    unfold vmB
    rw [← HL.out.len]
    simp [VM.nums]
  clear hb5 c9 c10 hnl HL4 B4
  try simp only [Exit.then, Exit.inBlock]
  go_wp2
  refine vb24 d10 (HE := HL5.out.ent) HL5.out.len (by omega) HV HS HPl ?_
  rintro w6 hb6 y14 y152 y153 y154 y155 y156 y157 y158 y159 y160 y161 y162 y163 y164 y165 y166 y167 y168 y169 y170 y171 y172 y173 y174 y175 y176
  have B6 : Hid (Below w2.heap.size w2 w6) := B5.out.trans (hb6.mono B5.out.size)
  rw [HVm.out]
  clear hb6 d10
  rename_i KK hKK
  refine hKK _ _ ?_
  refine vb27 (HW := W2.out.newB B6.out) HM HV HS hl hbase HR ?_
  rintro w7 hb7 y6 y15 y16 y17 y177 y178 y179 y180 y181 y182 y183 y184 y185 y186 y187 y188 y189 y190 y191 y192 y193 y194 y195 y196 y197 y198 y199
  have hbW := B2.out.trans (B6.out.mono B2.out.size)
  apply HC'.out _ (hbW.trans (hb7.mono hbW.size))
end Go.Proofs.Ytckjjajncgmddaa
