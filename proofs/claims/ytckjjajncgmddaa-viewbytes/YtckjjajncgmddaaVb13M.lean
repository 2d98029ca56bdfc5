import Derived.Test.YtckjjajncgmddaaVb14M
import Derived.Test.YtckjjajncgmddaaVb34M
import Derived.Test.YtckjjajncgmddaaVb40M
/- ViewBytes: behind what may be, to the end. -/
namespace Go.Proofs.Ytckjjajncgmddaa
open Go.RowKit
attribute [local go_sem] Oper.semAt_some
set_option linter.unusedSimpArgs false in
set_option maxRecDepth 100000 in
set_option maxHeartbeats 8000000 in
theorem vb13 {w W : World} {q : Nat} {k fr tt vw nm ix cm bi bv : Int} {base : ByteArray} {ao : Option Addr} {n1 cap : Nat} {E1 : List Ent} {s : ByteArray} {all : Int} {x0 x4 x5 x6 x7 x9 x10 x11 x12 x13 x14 x15 x16 x17 x18 x19 x20 x21 x22 x23 x24 x25 x26 x27 x28 x29 x30 x31 x32 x33 x34 x35 x36 x37 x38 x39 x40 x41 x42 x43 x44 x45 x46 x47 x48 x49 x50 x51 x52 x53 x54 x55 x56 x57 x58 x59 x60 x61 x62 x63 x64 x65 x66 x67 x68 x69 x70 x71 x72 x73 x74 x75 x76 x77 x78 x79 x80 x81 x82 x83 x84 x85 x86 x87 x88 x89 x90 x91 x92 x93 x94 x95 x96 x97 x98 x99 x100 x101 x102 x103 x104 x105 x106 x107 x108 x109 x110 x111 x112 x113 x114 x115 x116 x117 x118 x119 x120 x121 x122 x123 x124 x125 x126 x127 x128 x129 x130 x131 x132 x133 x134 x135 x136 x137 x138 x139 x140 x141 x142 x143 x144 x145 x146 x147 x148 x149 x150 x151 x152 x153 x154 x155 x156 x157 x158 x159 x160 x161 x162 x163 x164 x165 x166 x167 x168 x169 x170 x171 x172 x173 x174 x175 x176 x177 x178 x179 x180 x181 x182 x183 x184 x185 x186 x187 x188 x189 x190 x191 x192 x193 x194 x195 x196 x197 x198 x199 x200 x201 x202 x203 x204 x205 x206 x207 x208 x209 x210 x211 x212 x213 x214 x215 x216 x217 x218 x219 x220 x221 x222 x223 x224 x225 x226 x227 x228 x229 x230 x231 x232 x233 x234 x235 x236 x237 x238 x239 x240 x241 x242 x243 x244 x245 x246 x247 x248 x249 x250 x251 x252 x253 x254 x255 x256 x257 x258 x259 : Value} {okb : Bool} {Q : Exit → Act → World → Prop} (hs : s.size ≤ 1048576) (HL : Hid (LB w W q k fr tt vw nm ix cm bi bv base ao n1 cap E1)) (hn1 : n1 ≤ 1001) (HOk : Hid (okb = true → chkM ⟨k, fr, tt, vw, nm, ix, cm, bi, bv, base, E1⟩ all = true ∧ ∀ x ∈ E1, 0 ≤ x.v ∧ x.v ≤ 2147483647)) (HS : Hid (∀ x ∈ E1, x.s.size ≤ 1048576)) (hbase : base.size ≤ 1048576) (HR : Hid (entsN E1 ≤ 900000000)) (HQ : ∀ (a : Act) (w' : World), a.tmps.getD 6 undef = .bool true → a.defers = [] → Below W.heap.size W w' → Q .ret a w') :
    Code.wp Try.prog ((Try.f3.body.bind (fromRV 13)).getD .skip) Q ⟨(List.toArray (x0 :: (.string s) :: (.int .i64 all) :: (.pointer (some ⟨q, 0, none⟩)) :: x4 :: x5 :: x6 :: x7 :: (.bool okb) :: x9 :: x10 :: x11 :: x12 :: x13 :: x14 :: x15 :: x16 :: x17 :: x18 :: x19 :: x20 :: x21 :: x22 :: x23 :: x24 :: x25 :: x26 :: x27 :: x28 :: x29 :: x30 :: x31 :: x32 :: x33 :: x34 :: x35 :: x36 :: x37 :: x38 :: x39 :: x40 :: x41 :: x42 :: x43 :: x44 :: x45 :: x46 :: x47 :: x48 :: x49 :: x50 :: x51 :: x52 :: x53 :: x54 :: x55 :: x56 :: x57 :: x58 :: x59 :: x60 :: x61 :: x62 :: x63 :: x64 :: x65 :: x66 :: x67 :: x68 :: x69 :: x70 :: x71 :: x72 :: x73 :: x74 :: x75 :: x76 :: x77 :: x78 :: x79 :: x80 :: x81 :: x82 :: x83 :: x84 :: x85 :: x86 :: x87 :: x88 :: x89 :: x90 :: x91 :: x92 :: x93 :: x94 :: x95 :: x96 :: x97 :: x98 :: x99 :: x100 :: x101 :: x102 :: x103 :: x104 :: x105 :: x106 :: x107 :: x108 :: x109 :: x110 :: x111 :: x112 :: x113 :: x114 :: x115 :: x116 :: x117 :: x118 :: x119 :: x120 :: x121 :: x122 :: x123 :: x124 :: x125 :: x126 :: x127 :: x128 :: x129 :: x130 :: x131 :: x132 :: x133 :: x134 :: x135 :: x136 :: x137 :: x138 :: x139 :: x140 :: x141 :: x142 :: x143 :: x144 :: x145 :: x146 :: x147 :: x148 :: x149 :: x150 :: x151 :: x152 :: x153 :: x154 :: x155 :: x156 :: x157 :: x158 :: x159 :: x160 :: x161 :: x162 :: x163 :: x164 :: x165 :: x166 :: x167 :: x168 :: x169 :: x170 :: x171 :: x172 :: x173 :: x174 :: x175 :: x176 :: x177 :: x178 :: x179 :: x180 :: x181 :: x182 :: x183 :: x184 :: x185 :: x186 :: x187 :: x188 :: x189 :: x190 :: x191 :: x192 :: x193 :: x194 :: x195 :: x196 :: x197 :: x198 :: x199 :: x200 :: x201 :: x202 :: x203 :: x204 :: x205 :: x206 :: x207 :: x208 :: x209 :: x210 :: x211 :: x212 :: x213 :: x214 :: x215 :: x216 :: x217 :: x218 :: x219 :: x220 :: x221 :: x222 :: x223 :: x224 :: x225 :: x226 :: x227 :: x228 :: x229 :: x230 :: x231 :: x232 :: x233 :: x234 :: x235 :: x236 :: x237 :: x238 :: x239 :: x240 :: x241 :: x242 :: x243 :: x244 :: x245 :: x246 :: x247 :: x248 :: x249 :: x250 :: x251 :: x252 :: x253 :: x254 :: x255 :: x256 :: x257 :: x258 :: x259 :: [])), []⟩ W := by
  have HQ' : Hid _ := HQ
  clear HQ
  have HOk2 : Hid (okb = true → ∀ x ∈ E1, 0 ≤ x.v ∧ x.v ≤ 2147483647) := fun h => (HOk.out h).2
  conv => arg 2; whnf
  cases okb with
  | false =>
    go_wp2
    refine vb34 HL (by omega) HOk2 HS ?_
    rintro w9 hb9 y6 y18 y19 y200 y201 y202 y203 y204 y205 y206 y207 y208 y209 y210 y211 y212 y213 y214 y215 y216 y217 y218 y219 y220 y221 y222 y223 y224 y225 y226 y227
    rename_i KK hKK
    refine hKK _ _ ?_
    exact vb40 hs (fun a w' h1 h2 h3 => HQ'.out a w' h1 h2 (bel2 (hb9) h3))
  | true =>
    have HNum : Hid (Calls Try.prog 6 #[.slice (some ⟨W.heap.size, 0, none⟩) 1 1] (W.alloc (.cells #[.int .i64 all] 3)) fun r w' => r = .returned (.bool (numI all)) ∧ w' = W.alloc (.cells #[.int .i64 all] 3)) := by
      refine Calls.mono (nums_any (w := W.alloc (.cells #[.int .i64 all] 3)) (g := W.heap.size) (o := 0) (c := 1) (L := [all]) (fun k hk => ?_) (by simp)) ?_
      · obtain rfl : k = 0 := by simp at hk; omega
        exact vcell_blk (heap_alloc_new _ _)
      · rintro r w' ⟨rfl, rfl⟩
        exact ⟨by rw [show okNs [all] = numI all from (okNs_num [all]).trans (by simp)], rfl⟩
    have HL1 : Hid (LB w (W.alloc (.cells #[.int .i64 all] 3)) q k fr tt vw nm ix cm bi bv base ao n1 cap E1) := HL.out.new (vone_new _ _)
    have HV : Hid (∀ x ∈ E1, 0 ≤ x.v ∧ x.v ≤ 2147483647) := (HOk.out rfl).2
    by_cases ha : numI all = true
    · have hA := (numI_iff all).1 ha
      have hC := (HOk.out rfl).1
      have HMM : Hid (E1.length ≤ 1000 ∧ ∀ x ∈ VM.nums ⟨k, fr, tt, vw, nm, ix, cm, bi, bv, base, E1⟩, 0 ≤ x ∧ x ≤ 2147483647) := chk_nums hC hA.2
      clear hC hA
      rw [ha] at HNum
      go_upto_if 123 with (go_at_call 6; refine HNum.out.mono ?_; rintro r wz ⟨rfl, hz⟩; rw [hz]; clear hz)
      refine wp_cond_true (by rfl) ?_
      refine vb14 HL1 HMM.out.2 HV HS HMM.out.1 hbase HR ?_
      rintro w8 hb8 y6 y10 y11 y13 y14 y15 y16 y17 y124 y125 y126 y127 y128 y129 y130 y131 y132 y133 y134 y135 y136 y137 y138 y139 y140 y141 y142 y143 y144 y145 y146 y147 y148 y149 y150 y151 y152 y153 y154 y155 y156 y157 y158 y159 y160 y161 y162 y163 y164 y165 y166 y167 y168 y169 y170 y171 y172 y173 y174 y175 y176 y177 y178 y179 y180 y181 y182 y183 y184 y185 y186 y187 y188 y189 y190 y191 y192 y193 y194 y195 y196 y197 y198 y199
      have HL8 : Hid (LB w w8 q k fr tt vw nm ix cm bi bv base ao n1 cap E1) := HL1.out.new hb8
      have HB8 : Hid (Below W.heap.size W w8) := bel2 (vone_new _ _) hb8
      clear hb8
      go_wp2
      refine vb34 HL8 (by omega) (fun _ => HV.out) HS ?_
      rintro w9 hb9 y6 y18 y19 y200 y201 y202 y203 y204 y205 y206 y207 y208 y209 y210 y211 y212 y213 y214 y215 y216 y217 y218 y219 y220 y221 y222 y223 y224 y225 y226 y227
      rename_i KK hKK
      refine hKK _ _ ?_
      exact vb40 hs (fun a w' h1 h2 h3 => HQ'.out a w' h1 h2 (bel2 (bel2 HB8.out hb9) h3))
    · have ha' : numI all = false := by simpa using ha
      rw [ha'] at HNum
      go_wp2_with (go_at_call 6; refine HNum.out.mono ?_; rintro r wz ⟨rfl, hz⟩; rw [hz]; clear hz)
      refine vb34 HL1 (by omega) (fun _ => HV.out) HS ?_
      rintro w9 hb9 y6 y18 y19 y200 y201 y202 y203 y204 y205 y206 y207 y208 y209 y210 y211 y212 y213 y214 y215 y216 y217 y218 y219 y220 y221 y222 y223 y224 y225 y226 y227
      rename_i KK hKK
      refine hKK _ _ ?_
      exact vb40 hs (fun a w' h1 h2 h3 => HQ'.out a w' h1 h2 (bel2 (bel2 (vone_new _ _) hb9) h3))
end Go.Proofs.Ytckjjajncgmddaa
