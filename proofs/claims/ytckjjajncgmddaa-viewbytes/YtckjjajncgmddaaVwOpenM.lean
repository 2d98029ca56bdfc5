import Derived.Test.YtckjjajncgmddaaVbCM
import Derived.Test.YtckjjajncgmddaaVb13M
import Derived.Test.YtckjjajncgmddaaVb10M
import Derived.Test.YtckjjajncgmddaaVwRowM
import Derived.WalkKit
import Derived.ProofKit
import Derived.OpenShut
import Derived.Deep.Slices
import Derived.Deep.Strs
import Derived.Lib.SmallJoins
section
/- ViewBytes: may the message be? -/
namespace Go.Proofs.Ytckjjajncgmddaa
open Go.RowKit
attribute [local go_sem] Oper.semAt_some
set_option linter.unusedSimpArgs false in
set_option maxRecDepth 100000 in
set_option maxHeartbeats 8000000 in
theorem vb6r {W : World} {q : Nat} {k fr tt vw nm ix cm bi bv : Int} {base : ByteArray} {E1 : List Ent} {all : Int} {ao : Option Addr} {n1 cap : Nat} {x0 x1 x4 x5 x6 x8 x9 x10 x11 x12 x13 x14 x15 x16 x17 x18 x19 x20 x21 x22 x23 x24 x25 x26 x27 x28 x29 x30 x31 x32 x33 x34 x35 x36 x37 x38 x39 x40 x41 x42 x43 x44 x45 x46 x47 x48 x49 x50 x51 x52 x53 x54 x55 x56 x57 x58 x59 x60 x61 x62 x63 x64 x65 x66 x67 x68 x69 x70 x71 x72 x73 x74 x75 x76 x77 x78 x79 x80 x81 x82 x83 x84 x85 x86 x87 x88 x89 x90 x91 x92 x93 x94 x95 x96 x97 x98 x99 x100 x101 x102 x103 x104 x105 x106 x107 x108 x109 x110 x111 x112 x113 x114 x115 x116 x117 x118 x119 x120 x121 x122 x123 x124 x125 x126 x127 x128 x129 x130 x131 x132 x133 x134 x135 x136 x137 x138 x139 x140 x141 x142 x143 x144 x145 x146 x147 x148 x149 x150 x151 x152 x153 x154 x155 x156 x157 x158 x159 x160 x161 x162 x163 x164 x165 x166 x167 x168 x169 x170 x171 x172 x173 x174 x175 x176 x177 x178 x179 x180 x181 x182 x183 x184 x185 x186 x187 x188 x189 x190 x191 x192 x193 x194 x195 x196 x197 x198 x199 x200 x201 x202 x203 x204 x205 x206 x207 x208 x209 x210 x211 x212 x213 x214 x215 x216 x217 x218 x219 x220 x221 x222 x223 x224 x225 x226 x227 x228 x229 x230 x231 x232 x233 x234 x235 x236 x237 x238 x239 x240 x241 x242 x243 x244 x245 x246 x247 x248 x249 x250 x251 x252 x253 x254 x255 x256 x257 x258 x259 : Value} {Q : Exit → Act → World → Prop} (HZ : Hid (W.heap[q]? = some (.cells #[.int .i64 k, .int .i64 fr, .int .i64 tt, .int .i64 vw, .int .i64 nm, .int .i64 ix, .int .i64 cm, .int .i64 bi, .int .i64 bv, .string base, .slice ao n1 cap] 24 (0, 0)))) (hlen : Hid (E1.length = n1))
    (HC : ∀ (W' : World), Below W.heap.size W W' → ∀ (y34 y35 y36 y37 y38 y39 y40 y41 y42 y43 y44 y45 y46 y47 y48 y49 y50 y51 y52 y53 y54 y55 y56 y57 y58 y59 y60 y61 y62 y63 y64 y65 y66 y67 y68 y69 y70 y71 y72 y73 y74 y75 y76 y77 y78 y79 y80 y81 y82 y83 y84 y85 y86 y87 y88 y89 y90 : Value), Q .normal ⟨(List.toArray (x0 :: x1 :: (.int .i64 all) :: (.pointer (some ⟨q, 0, none⟩)) :: x4 :: x5 :: x6 :: (.int .i64 (mostK k : Nat)) :: (.bool (chkM ⟨k, fr, tt, vw, nm, ix, cm, bi, bv, base, E1⟩ all)) :: x9 :: x10 :: x11 :: x12 :: x13 :: x14 :: x15 :: x16 :: x17 :: x18 :: x19 :: x20 :: x21 :: x22 :: x23 :: x24 :: x25 :: x26 :: x27 :: x28 :: x29 :: x30 :: x31 :: x32 :: x33 :: y34 :: y35 :: y36 :: y37 :: y38 :: y39 :: y40 :: y41 :: y42 :: y43 :: y44 :: y45 :: y46 :: y47 :: y48 :: y49 :: y50 :: y51 :: y52 :: y53 :: y54 :: y55 :: y56 :: y57 :: y58 :: y59 :: y60 :: y61 :: y62 :: y63 :: y64 :: y65 :: y66 :: y67 :: y68 :: y69 :: y70 :: y71 :: y72 :: y73 :: y74 :: y75 :: y76 :: y77 :: y78 :: y79 :: y80 :: y81 :: y82 :: y83 :: y84 :: y85 :: y86 :: y87 :: y88 :: y89 :: y90 :: x91 :: x92 :: x93 :: x94 :: x95 :: x96 :: x97 :: x98 :: x99 :: x100 :: x101 :: x102 :: x103 :: x104 :: x105 :: x106 :: x107 :: x108 :: x109 :: x110 :: x111 :: x112 :: x113 :: x114 :: x115 :: x116 :: x117 :: x118 :: x119 :: x120 :: x121 :: x122 :: x123 :: x124 :: x125 :: x126 :: x127 :: x128 :: x129 :: x130 :: x131 :: x132 :: x133 :: x134 :: x135 :: x136 :: x137 :: x138 :: x139 :: x140 :: x141 :: x142 :: x143 :: x144 :: x145 :: x146 :: x147 :: x148 :: x149 :: x150 :: x151 :: x152 :: x153 :: x154 :: x155 :: x156 :: x157 :: x158 :: x159 :: x160 :: x161 :: x162 :: x163 :: x164 :: x165 :: x166 :: x167 :: x168 :: x169 :: x170 :: x171 :: x172 :: x173 :: x174 :: x175 :: x176 :: x177 :: x178 :: x179 :: x180 :: x181 :: x182 :: x183 :: x184 :: x185 :: x186 :: x187 :: x188 :: x189 :: x190 :: x191 :: x192 :: x193 :: x194 :: x195 :: x196 :: x197 :: x198 :: x199 :: x200 :: x201 :: x202 :: x203 :: x204 :: x205 :: x206 :: x207 :: x208 :: x209 :: x210 :: x211 :: x212 :: x213 :: x214 :: x215 :: x216 :: x217 :: x218 :: x219 :: x220 :: x221 :: x222 :: x223 :: x224 :: x225 :: x226 :: x227 :: x228 :: x229 :: x230 :: x231 :: x232 :: x233 :: x234 :: x235 :: x236 :: x237 :: x238 :: x239 :: x240 :: x241 :: x242 :: x243 :: x244 :: x245 :: x246 :: x247 :: x248 :: x249 :: x250 :: x251 :: x252 :: x253 :: x254 :: x255 :: x256 :: x257 :: x258 :: x259 :: [])), []⟩ W') :
    Code.wp Try.prog ((Try.f3.body.bind (regRV 6)).getD .skip) Q ⟨(List.toArray (x0 :: x1 :: (.int .i64 all) :: (.pointer (some ⟨q, 0, none⟩)) :: x4 :: x5 :: x6 :: (.int .i64 (mostK k : Nat)) :: x8 :: x9 :: x10 :: x11 :: x12 :: x13 :: x14 :: x15 :: x16 :: x17 :: x18 :: x19 :: x20 :: x21 :: x22 :: x23 :: x24 :: x25 :: x26 :: x27 :: x28 :: x29 :: x30 :: x31 :: x32 :: x33 :: x34 :: x35 :: x36 :: x37 :: x38 :: x39 :: x40 :: x41 :: x42 :: x43 :: x44 :: x45 :: x46 :: x47 :: x48 :: x49 :: x50 :: x51 :: x52 :: x53 :: x54 :: x55 :: x56 :: x57 :: x58 :: x59 :: x60 :: x61 :: x62 :: x63 :: x64 :: x65 :: x66 :: x67 :: x68 :: x69 :: x70 :: x71 :: x72 :: x73 :: x74 :: x75 :: x76 :: x77 :: x78 :: x79 :: x80 :: x81 :: x82 :: x83 :: x84 :: x85 :: x86 :: x87 :: x88 :: x89 :: x90 :: x91 :: x92 :: x93 :: x94 :: x95 :: x96 :: x97 :: x98 :: x99 :: x100 :: x101 :: x102 :: x103 :: x104 :: x105 :: x106 :: x107 :: x108 :: x109 :: x110 :: x111 :: x112 :: x113 :: x114 :: x115 :: x116 :: x117 :: x118 :: x119 :: x120 :: x121 :: x122 :: x123 :: x124 :: x125 :: x126 :: x127 :: x128 :: x129 :: x130 :: x131 :: x132 :: x133 :: x134 :: x135 :: x136 :: x137 :: x138 :: x139 :: x140 :: x141 :: x142 :: x143 :: x144 :: x145 :: x146 :: x147 :: x148 :: x149 :: x150 :: x151 :: x152 :: x153 :: x154 :: x155 :: x156 :: x157 :: x158 :: x159 :: x160 :: x161 :: x162 :: x163 :: x164 :: x165 :: x166 :: x167 :: x168 :: x169 :: x170 :: x171 :: x172 :: x173 :: x174 :: x175 :: x176 :: x177 :: x178 :: x179 :: x180 :: x181 :: x182 :: x183 :: x184 :: x185 :: x186 :: x187 :: x188 :: x189 :: x190 :: x191 :: x192 :: x193 :: x194 :: x195 :: x196 :: x197 :: x198 :: x199 :: x200 :: x201 :: x202 :: x203 :: x204 :: x205 :: x206 :: x207 :: x208 :: x209 :: x210 :: x211 :: x212 :: x213 :: x214 :: x215 :: x216 :: x217 :: x218 :: x219 :: x220 :: x221 :: x222 :: x223 :: x224 :: x225 :: x226 :: x227 :: x228 :: x229 :: x230 :: x231 :: x232 :: x233 :: x234 :: x235 :: x236 :: x237 :: x238 :: x239 :: x240 :: x241 :: x242 :: x243 :: x244 :: x245 :: x246 :: x247 :: x248 :: x249 :: x250 :: x251 :: x252 :: x253 :: x254 :: x255 :: x256 :: x257 :: x258 :: x259 :: [])), []⟩ W := by
  obtain ⟨res, hres⟩ : ∃ b, chkM ⟨k, fr, tt, vw, nm, ix, cm, bi, bv, base, E1⟩ all = b := ⟨_, rfl⟩
  have HRes : Hid (res = (decide (1 ≤ k) && (decide (k ≤ 6) && (decide (0 ≤ fr) && (decide (fr < all) && (decide (0 ≤ tt) && (decide (tt < all) && (decide (fr ≠ tt) && (([vw, nm, ix, cm, bi, bv] : List Int).all numI && (decide (nm ≤ vw) && decide (n1 ≤ mostK k))))))))))) := by show _ = _; rw [← hres, ← hlen.out]; rfl
  have HC' : Hid _ := HC
  clear HC
  rw [hres] at HC'
  clear hres
  conv => arg 2; whnf
  obtain ⟨a0, a1, a2, a3, a4, a5, a6, a7, a8, a9, a10⟩ := vmbox HZ.out
  by_cases c1 : 1 ≤ k
  case neg =>
    have c1n : k < 1 := by omega
    have HF : res = false := by rw [HRes.out]; simp only [decide_eq_false c1, Bool.false_and, Bool.and_false]
    subst HF
    go_wp2
    apply HC'.out _ (Below.refl _ _)
  by_cases c2 : k ≤ 6
  case neg =>
    have c2n : 6 < k := by omega
    have HF : res = false := by rw [HRes.out]; simp only [decide_eq_false c2, Bool.false_and, Bool.and_false]
    subst HF
    go_wp2
    apply HC'.out _ (Below.refl _ _)
  by_cases c3 : 0 ≤ fr
  case neg =>
    have c3n : fr < 0 := by omega
    have HF : res = false := by rw [HRes.out]; simp only [decide_eq_false c3, Bool.false_and, Bool.and_false]
    subst HF
    go_wp2
    apply HC'.out _ (Below.refl _ _)
  by_cases c4 : fr < all
  case neg =>
    have c4n : all ≤ fr := by omega
    have HF : res = false := by rw [HRes.out]; simp only [decide_eq_false c4, Bool.false_and, Bool.and_false]
    subst HF
    go_wp2
    apply HC'.out _ (Below.refl _ _)
  by_cases c5 : 0 ≤ tt
  case neg =>
    have c5n : tt < 0 := by omega
    have HF : res = false := by rw [HRes.out]; simp only [decide_eq_false c5, Bool.false_and, Bool.and_false]
    subst HF
    go_wp2
    apply HC'.out _ (Below.refl _ _)
  by_cases c6 : tt < all
  case neg =>
    have c6n : all ≤ tt := by omega
    have HF : res = false := by rw [HRes.out]; simp only [decide_eq_false c6, Bool.false_and, Bool.and_false]
    subst HF
    go_wp2
    apply HC'.out _ (Below.refl _ _)
  by_cases c7 : fr = tt
  · subst c7
    have HF : res = false := by rw [HRes.out]; simp
    subst HF
    go_wp2
    apply HC'.out _ (Below.refl _ _)
  have c7n : (fr == tt) = false := by simpa using c7
  have c7m : (fr != tt) = true := by simpa using c7
  obtain ⟨b6, hb6⟩ : ∃ b, okNs [vw, nm, ix, cm, bi, bv] = b := ⟨_, rfl⟩
  have HRes2 : Hid (res = (b6 && (decide (nm ≤ vw) && decide (n1 ≤ mostK k)))) := by
    show _ = _
    rw [HRes.out, ← hb6, okNs_num]
    simp only [c1, c2, c3, c4, c5, c6, decide_true, Bool.true_and]
    rw [show decide (fr ≠ tt) = true by simpa using c7, Bool.true_and]
  have HB6 : Hid (okNs [vw, nm, ix, cm, bi, bv] = b6) := hb6
  have HNine : Hid (Calls Try.prog 7 #[.agg #[.int .i64 k, .int .i64 fr, .int .i64 tt, .int .i64 vw, .int .i64 nm, .int .i64 ix, .int .i64 cm, .int .i64 bi, .int .i64 bv, .string base, .slice ao n1 cap]] W fun r w' => ∃ g, r = .returned (.slice (some ⟨g, 0, none⟩) 9 9) ∧ Below W.heap.size W w' ∧ ∀ j (hj : j < [k, fr, tt, vw, nm, ix, cm, bi, bv].length), w'.cell? ⟨g, j, none⟩ = some (.int .i64 [k, fr, tt, vw, nm, ix, cm, bi, bv][j])) := all_nine W k fr tt vw nm ix cm bi bv base ao n1 cap
  clear HRes hb6
  cases b6 with
  | false =>
    have HF : res = false := by rw [HRes2.out]; rfl
    subst HF
    go_wp2_with (first
      | (go_at_call 7; refine HNine.out.mono ?_; rintro r w1 ⟨g, rfl, hb1, hc1⟩; have B1 : Hid _ := hb1; have HC1 : Hid _ := hc1; clear hb1 hc1)
      | (go_at_call 6; refine (nums_any (g := g) (o := 3) (c := 6) (L := [vw, nm, ix, cm, bi, bv]) (six_at HC1.out) (by simp)).mono ?_; rintro r wz ⟨rfl, hz⟩; rw [hz, HB6.out]; clear hz))
    apply HC'.out _ B1.out
  | true =>
    by_cases c8 : nm ≤ vw
    case neg =>
      have c8n : vw < nm := by omega
      have HF : res = false := by rw [HRes2.out]; simp only [decide_eq_false c8, Bool.false_and, Bool.and_false]
      subst HF
      go_wp2_with (first
        | (go_at_call 7; refine HNine.out.mono ?_; rintro r w1 ⟨g, rfl, hb1, hc1⟩; have d3 := (hb1.cell (p := ⟨q, 3, none⟩) (vlt_cell a3)).trans a3; have d4 := (hb1.cell (p := ⟨q, 4, none⟩) (vlt_cell a4)).trans a4; have B1 : Hid _ := hb1; have HC1 : Hid _ := hc1; clear hb1 hc1)
        | (go_at_call 6; refine (nums_any (g := g) (o := 3) (c := 6) (L := [vw, nm, ix, cm, bi, bv]) (six_at HC1.out) (by simp)).mono ?_; rintro r wz ⟨rfl, hz⟩; rw [hz, HB6.out]; clear hz))
      apply HC'.out _ B1.out
    obtain ⟨mo, hmo⟩ : ∃ mo, mostK k = mo := ⟨_, rfl⟩
    rw [hmo] at HRes2 HC' ⊢
    have HRes3 : Hid (res = decide (n1 ≤ mo)) := by show _ = _; rw [HRes2.out]; simp [c8]
    clear HRes2 hmo
    by_cases c9 : n1 ≤ mo
    · have c9I : (n1 : Int) ≤ mo := by omega
      have HF : res = true := by rw [HRes3.out]; simpa using c9
      subst HF
      go_wp2_with (first
        | (go_at_call 7; refine HNine.out.mono ?_; rintro r w1 ⟨g, rfl, hb1, hc1⟩; have d3 := (hb1.cell (p := ⟨q, 3, none⟩) (vlt_cell a3)).trans a3; have d4 := (hb1.cell (p := ⟨q, 4, none⟩) (vlt_cell a4)).trans a4; have d10 := (hb1.cell (p := ⟨q, 10, none⟩) (vlt_cell a10)).trans a10; have B1 : Hid _ := hb1; have HC1 : Hid _ := hc1; clear hb1 hc1)
        | (go_at_call 6; refine (nums_any (g := g) (o := 3) (c := 6) (L := [vw, nm, ix, cm, bi, bv]) (six_at HC1.out) (by simp)).mono ?_; rintro r wz ⟨rfl, hz⟩; rw [hz, HB6.out]; clear hz))
      apply HC'.out _ B1.out
    · have c9I : (mo : Int) < n1 := by omega
      have HF : res = false := by rw [HRes3.out]; simpa using c9
      subst HF
      go_wp2_with (first
        | (go_at_call 7; refine HNine.out.mono ?_; rintro r w1 ⟨g, rfl, hb1, hc1⟩; have d3 := (hb1.cell (p := ⟨q, 3, none⟩) (vlt_cell a3)).trans a3; have d4 := (hb1.cell (p := ⟨q, 4, none⟩) (vlt_cell a4)).trans a4; have d10 := (hb1.cell (p := ⟨q, 10, none⟩) (vlt_cell a10)).trans a10; have B1 : Hid _ := hb1; have HC1 : Hid _ := hc1; clear hb1 hc1)
        | (go_at_call 6; refine (nums_any (g := g) (o := 3) (c := 6) (L := [vw, nm, ix, cm, bi, bv]) (six_at HC1.out) (by simp)).mono ?_; rintro r wz ⟨rfl, hz⟩; rw [hz, HB6.out]; clear hz))
      apply HC'.out _ B1.out
end Go.Proofs.Ytckjjajncgmddaa
end

section
/- ViewBytes: from what may be on. -/
namespace Go.Proofs.Ytckjjajncgmddaa
open Go.RowKit
attribute [local go_sem] Oper.semAt_some
set_option linter.unusedSimpArgs false in
set_option maxRecDepth 100000 in
set_option maxHeartbeats 8000000 in
theorem vb6 {w W : World} {q : Nat} {k fr tt vw nm ix cm bi bv : Int} {base : ByteArray} {ao : Option Addr} {n1 cap : Nat} {E1 : List Ent} {s : ByteArray} {all : Int} {x0 x4 x5 x6 x8 x9 x10 x11 x12 x13 x14 x15 x16 x17 x18 x19 x20 x21 x22 x23 x24 x25 x26 x27 x28 x29 x30 x31 x32 x33 x34 x35 x36 x37 x38 x39 x40 x41 x42 x43 x44 x45 x46 x47 x48 x49 x50 x51 x52 x53 x54 x55 x56 x57 x58 x59 x60 x61 x62 x63 x64 x65 x66 x67 x68 x69 x70 x71 x72 x73 x74 x75 x76 x77 x78 x79 x80 x81 x82 x83 x84 x85 x86 x87 x88 x89 x90 x91 x92 x93 x94 x95 x96 x97 x98 x99 x100 x101 x102 x103 x104 x105 x106 x107 x108 x109 x110 x111 x112 x113 x114 x115 x116 x117 x118 x119 x120 x121 x122 x123 x124 x125 x126 x127 x128 x129 x130 x131 x132 x133 x134 x135 x136 x137 x138 x139 x140 x141 x142 x143 x144 x145 x146 x147 x148 x149 x150 x151 x152 x153 x154 x155 x156 x157 x158 x159 x160 x161 x162 x163 x164 x165 x166 x167 x168 x169 x170 x171 x172 x173 x174 x175 x176 x177 x178 x179 x180 x181 x182 x183 x184 x185 x186 x187 x188 x189 x190 x191 x192 x193 x194 x195 x196 x197 x198 x199 x200 x201 x202 x203 x204 x205 x206 x207 x208 x209 x210 x211 x212 x213 x214 x215 x216 x217 x218 x219 x220 x221 x222 x223 x224 x225 x226 x227 x228 x229 x230 x231 x232 x233 x234 x235 x236 x237 x238 x239 x240 x241 x242 x243 x244 x245 x246 x247 x248 x249 x250 x251 x252 x253 x254 x255 x256 x257 x258 x259 : Value} {Q : Exit → Act → World → Prop} (hs : s.size ≤ 1048576) (HL : Hid (LB w W q k fr tt vw nm ix cm bi bv base ao n1 cap E1)) (hn1 : n1 ≤ 1001) (HS : Hid (∀ x ∈ E1, x.s.size ≤ 1048576)) (hbase : base.size ≤ 1048576) (HR : Hid (entsN E1 ≤ 900000000)) (HQ : ∀ (a : Act) (w' : World), a.tmps.getD 6 undef = .bool true → a.defers = [] → Below W.heap.size W w' → Q .ret a w') :
    Code.wp Try.prog ((Try.f3.body.bind (fromRV 6)).getD .skip) Q ⟨(List.toArray (x0 :: (.string s) :: (.int .i64 all) :: (.pointer (some ⟨q, 0, none⟩)) :: x4 :: x5 :: x6 :: (.int .i64 (mostK k : Nat)) :: x8 :: x9 :: x10 :: x11 :: x12 :: x13 :: x14 :: x15 :: x16 :: x17 :: x18 :: x19 :: x20 :: x21 :: x22 :: x23 :: x24 :: x25 :: x26 :: x27 :: x28 :: x29 :: x30 :: x31 :: x32 :: x33 :: x34 :: x35 :: x36 :: x37 :: x38 :: x39 :: x40 :: x41 :: x42 :: x43 :: x44 :: x45 :: x46 :: x47 :: x48 :: x49 :: x50 :: x51 :: x52 :: x53 :: x54 :: x55 :: x56 :: x57 :: x58 :: x59 :: x60 :: x61 :: x62 :: x63 :: x64 :: x65 :: x66 :: x67 :: x68 :: x69 :: x70 :: x71 :: x72 :: x73 :: x74 :: x75 :: x76 :: x77 :: x78 :: x79 :: x80 :: x81 :: x82 :: x83 :: x84 :: x85 :: x86 :: x87 :: x88 :: x89 :: x90 :: x91 :: x92 :: x93 :: x94 :: x95 :: x96 :: x97 :: x98 :: x99 :: x100 :: x101 :: x102 :: x103 :: x104 :: x105 :: x106 :: x107 :: x108 :: x109 :: x110 :: x111 :: x112 :: x113 :: x114 :: x115 :: x116 :: x117 :: x118 :: x119 :: x120 :: x121 :: x122 :: x123 :: x124 :: x125 :: x126 :: x127 :: x128 :: x129 :: x130 :: x131 :: x132 :: x133 :: x134 :: x135 :: x136 :: x137 :: x138 :: x139 :: x140 :: x141 :: x142 :: x143 :: x144 :: x145 :: x146 :: x147 :: x148 :: x149 :: x150 :: x151 :: x152 :: x153 :: x154 :: x155 :: x156 :: x157 :: x158 :: x159 :: x160 :: x161 :: x162 :: x163 :: x164 :: x165 :: x166 :: x167 :: x168 :: x169 :: x170 :: x171 :: x172 :: x173 :: x174 :: x175 :: x176 :: x177 :: x178 :: x179 :: x180 :: x181 :: x182 :: x183 :: x184 :: x185 :: x186 :: x187 :: x188 :: x189 :: x190 :: x191 :: x192 :: x193 :: x194 :: x195 :: x196 :: x197 :: x198 :: x199 :: x200 :: x201 :: x202 :: x203 :: x204 :: x205 :: x206 :: x207 :: x208 :: x209 :: x210 :: x211 :: x212 :: x213 :: x214 :: x215 :: x216 :: x217 :: x218 :: x219 :: x220 :: x221 :: x222 :: x223 :: x224 :: x225 :: x226 :: x227 :: x228 :: x229 :: x230 :: x231 :: x232 :: x233 :: x234 :: x235 :: x236 :: x237 :: x238 :: x239 :: x240 :: x241 :: x242 :: x243 :: x244 :: x245 :: x246 :: x247 :: x248 :: x249 :: x250 :: x251 :: x252 :: x253 :: x254 :: x255 :: x256 :: x257 :: x258 :: x259 :: [])), []⟩ W := by
  have HQ' : Hid _ := HQ
  clear HQ
  have HCk : Hid (∀ w, Calls Try.prog 9 #[.agg #[.int .i64 k, .int .i64 fr, .int .i64 tt, .int .i64 vw, .int .i64 nm, .int .i64 ix, .int .i64 cm, .int .i64 bi, .int .i64 bv, .string base, .slice ao n1 cap], .int .i64 all] w fun r w' => r = .returned (.bool (chkM ⟨k, fr, tt, vw, nm, ix, cm, bi, bv, base, E1⟩ all)) ∧ Below w.heap.size w w') := fun w => by
    have := check_any w ⟨k, fr, tt, vw, nm, ix, cm, bi, bv, base, E1⟩ all ao cap
    simp only [vmV] at this
    rw [show E1.length = n1 from HL.out.len] at this
    exact this
  obtain ⟨ck, hck⟩ : ∃ ck, chkM ⟨k, fr, tt, vw, nm, ix, cm, bi, bv, base, E1⟩ all = ck := ⟨_, rfl⟩
  have HCe : Hid (chkM ⟨k, fr, tt, vw, nm, ix, cm, bi, bv, base, E1⟩ all = ck) := hck
  clear hck
  conv => arg 2; whnf
  go_upto_region 6 with (fail)
  refine vb6r HL.out.box HL.out.len ?_
  rintro w1 hb1 y34 y35 y36 y37 y38 y39 y40 y41 y42 y43 y44 y45 y46 y47 y48 y49 y50 y51 y52 y53 y54 y55 y56 y57 y58 y59 y60 y61 y62 y63 y64 y65 y66 y67 y68 y69 y70 y71 y72 y73 y74 y75 y76 y77 y78 y79 y80 y81 y82 y83 y84 y85 y86 y87 y88 y89 y90
  rw [HCe.out]
  rw [show (chkM ⟨k, fr, tt, vw, nm, ix, cm, bi, bv, base, E1⟩ all) = ck from HCe.out] at HCk
  have HL1 : Hid (LB w w1 q k fr tt vw nm ix cm bi bv base ao n1 cap E1) := HL.out.new hb1
  have HB1 : Hid (Below W.heap.size W w1) := hb1
  clear hb1
  try simp only [Exit.then, Exit.inBlock]
  go_wp2_with (first
    | (go_at_call 8; refine (awake13 _).mono ?_; rintro r w2 ⟨rfl, hb2⟩; have hL2 := HL1.out.new hb2; obtain ⟨a0, a1, a2, a3, a4, a5, a6, a7, a8, a9, a10⟩ := vmbox hL2.box; have HL2 : Hid (LB w w2 q k fr tt vw nm ix cm bi bv base ao n1 cap E1) := hL2; have HB2 : Hid (Below W.heap.size W w2) := bel2 HB1.out hb2; clear hb2 hL2)
    | (go_at_call 9; refine (HCk.out _).mono ?_; rintro r w3 ⟨rfl, hb3⟩; have HL3 : Hid (LB w w3 q k fr tt vw nm ix cm bi bv base ao n1 cap E1) := HL2.out.new hb3; have HB3 : Hid (Below W.heap.size W w3) := bel2 HB2.out hb3; clear hb3 a0 a1 a2 a3 a4 a5 a6 a7 a8 a9 a10))
  refine vb10 (vmbox HL3.out.box).2.2.2.2.2.2.2.2.2.2 HL3.out.ent HL3.out.len hn1 ?_
  rintro w4 hb4 y9 y100 y101 y102 y103 y104 y105 y106 y107 y108 y109 y110 y111 y112 y113 y114 y115 y116 y117
  rename_i KK hKK
  refine hKK _ _ ?_
  refine vb13 hs (HL := HL3.out.new hb4) hn1 (HOk := fun h => ?_) HS hbase HR (fun a w' h1 h2 h3 => HQ'.out a w' h1 h2 (bel2 (bel2 HB3.out hb4) h3))
  rw [Bool.and_eq_true] at h
  refine ⟨HCe.out.trans h.1, fun x hx => ?_⟩
  exact (numI_iff _).1 (List.all_eq_true.1 h.2 x hx)
end Go.Proofs.Ytckjjajncgmddaa
end

section
/- ViewBytes: the walk. -/
namespace Go.Proofs.Ytckjjajncgmddaa
open Go.RowKit
attribute [local go_sem] Oper.semAt_some
theorem entsN_sum (E : List Ent) (h : (E.map fun e => e.s.size).sum ≤ 1048576) (hl : E.length ≤ 1001) : entsN E ≤ 900000000 := by
  have : ∀ E : List Ent, entsN E = (E.map fun e => e.s.size).sum + 30 * E.length := fun E => by
    induction E with
    | nil => simp [entsN]
    | cons e E ih =>
      have h5 : entsN (e :: E) = (e.s.size + 30) + entsN E := by simp [entsN]
      rw [h5, ih, List.map_cons, List.sum_cons, List.length_cons]
      omega
  rw [this E]
  omega
theorem sum_takeE : ∀ (E : List Ent) (n : Nat), ((E.take n).map fun e => e.s.size).sum ≤ (E.map fun e => e.s.size).sum
  | [], _ => by simp
  | _ :: _, 0 => by simp
  | e :: E, n + 1 => by
    have := sum_takeE E n
    rw [List.take_succ_cons, List.map_cons, List.sum_cons, List.map_cons, List.sum_cons]
    omega
theorem mem_sumE {E : List Ent} {x : Ent} (h : x ∈ E) : x.s.size ≤ (E.map fun e => e.s.size).sum := by
  induction E with
  | nil => cases h
  | cons e E ih =>
    rw [List.map_cons, List.sum_cons]
    rcases List.mem_cons.1 h with rfl | h
    · omega
    · have := ih h
      omega
set_option linter.unusedSimpArgs false in
set_option maxRecDepth 100000 in
set_option maxHeartbeats 8000000 in
theorem vbytes_any {w : World} (k fr tt vw nm ix cm bi bv : Int) (base s : ByteArray) (ao : Option Addr) (n cap : Nat) (masters : Int) (E : List Ent) (hE : EnS w (.slice ao n cap) E) (hn : E.length = n) (hl : n ≤ 1000000000) (hs : s.size ≤ 1048576) (hbase : base.size ≤ 1048576) (hsum : (E.map fun e => e.s.size).sum ≤ 1048576) :
    Calls Try.prog 3 #[.agg #[.int .i64 k, .int .i64 fr, .int .i64 tt, .int .i64 vw, .int .i64 nm, .int .i64 ix, .int .i64 cm, .int .i64 bi, .int .i64 bv, .string base, .slice ao n cap], .string s, .int .i64 masters] w fun r w' => r = .returned (.bool true) ∧ Below w.heap.size w w' := by
  have HE : Hid (EnS w (.slice ao n cap) E) := hE
  have HN : Hid (E.length = n) := hn
  have HSum : Hid ((E.map fun e => e.s.size).sum ≤ 1048576) := hsum
  obtain ⟨ao', cap', ee, hcap, -⟩ := hE
  have hcap' : n ≤ cap := by
    injection ee with e1 e2 e3
    omega
  clear hn ee hcap ao' cap' hsum
  go_enter Try.func3, Try.ntmps3
  go_upto_region 1 with (fail)
  generalize hW : World.alloc _ _ = W
  have b0 : Below w.heap.size w W := by rw [← hW]; exact vone_new _ _
  have hZ : W.heap[w.heap.size]? = some (.cells #[.int .i64 k, .int .i64 fr, .int .i64 tt, .int .i64 vw, .int .i64 nm, .int .i64 ix, .int .i64 cm, .int .i64 bi, .int .i64 bv, .string base, .slice ao n cap] 24 (0, 0)) := by rw [← hW]; exact heap_alloc_new _ _
  have HE0 : Hid (EnS W (.slice ao n cap) E) := HE.out.new b0
  obtain ⟨q, hq⟩ : ∃ q, w.heap.size = q := ⟨_, rfl⟩
  rw [hq] at hZ ⊢
  have HL : Hid (LB w W q k fr tt vw nm ix cm bi bv base ao n cap E) := ⟨hZ, HE0.out, HN.out, b0, hq⟩
  obtain ⟨_, _, _, _, _, _, _, _, _, _, x10⟩ := vmbox hZ
  have f10 := vfree hZ 10
  have hEb : 0 < n → ∃ b off, ao = some ⟨b, off, none⟩ ∧ b < w.heap.size := fun h0 => by
    obtain ⟨ao', cap', ee, -, h2⟩ := HE.out
    injection ee with e1 e2 e3
    subst e1
    obtain ⟨b, off, e, hc⟩ := h2 (by have := HN.out; omega)
    exact ⟨b, off, e, lt_cell (hc 0 (by have := HN.out; omega)).1⟩
  have HEb : Hid _ := hEb
  clear hW b0 hZ hq HE0 hEb
  go_upto_if 26 with fail
  go_cut [] (fun wx => ∃ (n1 : Nat) (E1 : List Ent), LB w wx q k fr tt vw nm ix cm bi bv base ao n1 cap E1 ∧ n1 ≤ 1001 ∧ (E1.map fun e => e.s.size).sum ≤ 1048576)
  case first =>
    by_cases hc : 1001 < n
    · have hcI : (1001 : Int) < n := by omega
      have hcapI : (1001 : Int) ≤ cap := by omega
      have hcap0 : ¬ cap = 0 := by omega
      obtain ⟨b, off, rfl, hbw⟩ := HEb.out (by omega)
      go_wp2
      generalize hW1 : World.setCell _ _ _ = W1
      have hL1 : LB w W1 q k fr tt vw nm ix cm bi bv base (some ⟨b, off, none⟩) 1001 cap (E.take 1001) := by
        have h0 := HL.out
        have hq := h0.eq
        have f : Fr W W1 (fun k => k = q) := by rw [← hW1]; exact Fr.setCell (S := fun k => k = q) _ ⟨q, 10, none⟩ _ rfl
        have hz : W1.heap[q]? = some (.cells #[.int .i64 k, .int .i64 fr, .int .i64 tt, .int .i64 vw, .int .i64 nm, .int .i64 ix, .int .i64 cm, .int .i64 bi, .int .i64 bv, .string base, .slice (some ⟨b, off, none⟩) 1001 cap] 24 (0, 0)) := by rw [← hW1]; exact vblk_set _ h0.box
        have hb1 : Below w.heap.size w W1 := by
          rw [hq]
          exact vbelow_fr (by rw [← hq]; exact h0.fr) f (by have := vlt_blk h0.box; omega)
        exact ⟨hz, (HE.out.new hb1).cut 1001 (by have := HN.out; omega), by rw [List.length_take]; have := HN.out; omega, hb1, hq⟩
      go_meet
      exact ⟨1001, _, hL1, by omega, Nat.le_trans (sum_takeE _ _) HSum.out⟩
    · have hcI : (n : Int) ≤ 1001 := by omega
      go_wp2
      go_meet
      exact ⟨n, E, HL.out, by omega, HSum.out⟩
  case rest =>
    obtain ⟨n1, E1, hL, hn1, hsm⟩ := hcut
    have HL1 : Hid (LB w wc q k fr tt vw nm ix cm bi bv base ao n1 cap E1) := hL
    have HSm : Hid ((E1.map fun e => e.s.size).sum ≤ 1048576) := hsm
    have HLn : Hid (E1.length = n1) := hL.len
    obtain ⟨x0, x1, x2, x3, x4, x5, x6, x7, x8, x9, x10'⟩ := vmbox hL.box
    clear hL x10 f10 HL hsm
    obtain ⟨mo, hmo⟩ : ∃ mo, mostK k = mo := ⟨_, rfl⟩
    have HMo : Hid (mostK k = mo) := hmo
    go_upto_if 33 with fail
    go_cut [7] (fun v wx => v = .int .i64 mo ∧ wx = wc)
    case first =>
      by_cases hk : k = 1
      · subst hk
        go_wp2
        go_meet
        exact ⟨by rw [← HMo.out]; rfl, rfl⟩
      · have hkb : (k == 1) = false := by simpa using hk
        go_wp2
        go_meet
        exact ⟨by rw [← HMo.out]; unfold mostK; rw [if_neg hk]; rfl, rfl⟩
    case rest =>
      obtain ⟨rfl, rfl⟩ := hcut
      subst hmo
      rename_i KK hKK
      refine hKK _ _ ?_
      refine vb6 hs HL1 hn1 (HS := fun x hx => Nat.le_trans (mem_sumE hx) HSm.out) hbase (HR := entsN_sum E1 HSm.out (by rw [HLn.out]; exact hn1)) (fun a w' ha hd hb => ?_)
      refine bodyPost_ret (results_tmp rfl _ _ _) hd ?_
      refine ⟨?_, bel2 HL1.out.fr hb⟩
      show Ending.returned (a.tmps.getD 6 undef) = _
      rw [ha]
end Go.Proofs.Ytckjjajncgmddaa
end

section
/- How entries, what is kept and messages that came in are opened. -/
namespace Go.Proofs.Ytckjjajncgmddaa
open Go.RowKit Go.Deep Go.Joins Go.ChangeShapes
theorem vcellsI : Try.prog.cellsOf 3 = 1 := by kernel_rfl
theorem vcellsS : Try.prog.cellsOf 9 = 1 := by kernel_rfl
theorem vcellsE : Try.prog.cellsOf 31 = 2 := by kernel_rfl
theorem vcellsL : Try.prog.cellsOf 22 = 1 := by kernel_rfl
theorem vcellsM : Try.prog.cellsOf 24 = 11 := by kernel_rfl
theorem two_ofV {α : Type} {l : List α} (h : l.length = 2) : ∃ a b, l = [a, b] := by
  match l, h with
  | [a, b], _ => exact ⟨a, b, rfl⟩
theorem eleven_ofV {α : Type} {l : List α} (h : l.length = 11) : ∃ a b c d e f g i j k m, l = [a, b, c, d, e, f, g, i, j, k, m] := by
  match l, h with
  | [a, b, c, d, e, f, g, i, j, k, m], _ => exact ⟨a, b, c, d, e, f, g, i, j, k, m, rfl⟩
def V64 (x : Int) : Prop := -9223372036854775808 ≤ x ∧ x ≤ 9223372036854775807
section
variable {H : Type} {enc : TypeId × Value → H} {w : World} {base : Nat} {spare : Nat → Bool} {held : Bool}
theorem v_struct11 {t : TypeId} {f0 f1 f2 f3 f4 f5 f6 f7 f8 f9 f10 : Field} {fuel : Nat} {cs : List Value} {x : DataW H × List MemPlace} (ht : Try.prog.underlying t = some (.struct #[f0, f1, f2, f3, f4, f5, f6, f7, f8, f9, f10])) (h : DataW.trod enc Try.prog w base spare held fuel t cs = some x) :
    ∃ y0 y1 y2 y3 y4 y5 y6 y7 y8 y9 y10 n, x.1 = .agg [y0.1, y1.1, y2.1, y3.1, y4.1, y5.1, y6.1, y7.1, y8.1, y9.1, y10.1] ∧ cs.length = Try.prog.cellsOf t ∧ DataW.trod enc Try.prog w base spare held n f0.type ((cs.drop f0.offset).take (Try.prog.cellsOf f0.type)) = some y0 ∧ DataW.trod enc Try.prog w base spare held n f1.type ((cs.drop f1.offset).take (Try.prog.cellsOf f1.type)) = some y1 ∧ DataW.trod enc Try.prog w base spare held n f2.type ((cs.drop f2.offset).take (Try.prog.cellsOf f2.type)) = some y2 ∧ DataW.trod enc Try.prog w base spare held n f3.type ((cs.drop f3.offset).take (Try.prog.cellsOf f3.type)) = some y3 ∧ DataW.trod enc Try.prog w base spare held n f4.type ((cs.drop f4.offset).take (Try.prog.cellsOf f4.type)) = some y4 ∧ DataW.trod enc Try.prog w base spare held n f5.type ((cs.drop f5.offset).take (Try.prog.cellsOf f5.type)) = some y5 ∧ DataW.trod enc Try.prog w base spare held n f6.type ((cs.drop f6.offset).take (Try.prog.cellsOf f6.type)) = some y6 ∧ DataW.trod enc Try.prog w base spare held n f7.type ((cs.drop f7.offset).take (Try.prog.cellsOf f7.type)) = some y7 ∧ DataW.trod enc Try.prog w base spare held n f8.type ((cs.drop f8.offset).take (Try.prog.cellsOf f8.type)) = some y8 ∧ DataW.trod enc Try.prog w base spare held n f9.type ((cs.drop f9.offset).take (Try.prog.cellsOf f9.type)) = some y9 ∧ DataW.trod enc Try.prog w base spare held n f10.type ((cs.drop f10.offset).take (Try.prog.cellsOf f10.type)) = some y10 := by
  obtain ⟨xs, n, _, rfl, hl, hlen, hf⟩ := DataW.trod_struct ht h
  match xs, hlen with
  | [y0, y1, y2, y3, y4, y5, y6, y7, y8, y9, y10], _ => exact ⟨y0, y1, y2, y3, y4, y5, y6, y7, y8, y9, y10, n, by simp, hl, by simpa using hf 0 f0 rfl, by simpa using hf 1 f1 rfl, by simpa using hf 2 f2 rfl, by simpa using hf 3 f3 rfl, by simpa using hf 4 f4 rfl, by simpa using hf 5 f5 rfl, by simpa using hf 6 f6 rfl, by simpa using hf 7 f7 rfl, by simpa using hf 8 f8 rfl, by simpa using hf 9 f9 rfl, by simpa using hf 10 f10 rfl⟩
theorem open_ent {n : Nat} {cs : List Value} {x : DataW H × List MemPlace} (h : DataW.trod enc Try.prog w base spare held n 31 cs = some x) :
    ∃ y : Ent, cs = [.int .i64 y.v, .string y.s] ∧ x.1 = .agg [.lit (.int .i64 y.v), .lit (.string y.s.data.toList)] ∧ V64 y.v := by
  obtain ⟨y0, y1, m, hx, hl, h0, h1⟩ := trod_struct2 Try.underlying31 h
  rw [vcellsE] at hl
  obtain ⟨v0, v1, rfl⟩ := two_ofV hl
  simp only [vcellsI, vcellsS, List.drop, List.take] at h0 h1
  obtain ⟨a, e0, g0, wa⟩ := DataW.trod_int Try.underlying3 h0
  obtain ⟨s, e1, g1, _⟩ := DataW.trod_string Try.underlying9 h1
  simp only [List.cons.injEq, and_true] at e0 e1
  subst e0 e1
  have := bounds_i64 wa
  exact ⟨⟨a, s⟩, rfl, by rw [hx, g0, g1], this⟩
end
end Go.Proofs.Ytckjjajncgmddaa
end
