import Derived.Test.YtckjjajncgmddaaVbCM
/- ViewBytes: what is put is taken again. -/
namespace Go.Proofs.Ytckjjajncgmddaa
open Go.RowKit
attribute [local go_sem] Oper.semAt_some
theorem vmB_len {k fr tt vw nm ix cm bi bv : Int} {base : ByteArray} {E1 : List Ent} (HM : Hid (∀ x ∈ VM.nums ⟨k, fr, tt, vw, nm, ix, cm, bi, bv, base, E1⟩, 0 ≤ x ∧ x ≤ 2147483647)) (HV : Hid (∀ x ∈ E1, 0 ≤ x.v ∧ x.v ≤ 2147483647)) (hl : E1.length ≤ 1000) (hbase : base.size ≤ 1048576) (HR : Hid (entsN E1 ≤ 900000000)) : (vmB ⟨k, fr, tt, vw, nm, ix, cm, bi, bv, base, E1⟩).length ≤ 1000000000 := by
  have h1 := numsB_len (VM.nums ⟨k, fr, tt, vw, nm, ix, cm, bi, bv, base, E1⟩) (fun x hx => Int.le_trans (HM.out x hx).2 (by decide))
  have h2 := (textB_len base (by omega)).1
  have h3 := numB_len10 (n := E1.length) (by omega)
  have h4 := ents_take E1 (fun x hx => Int.le_trans (HV.out x hx).2 (by decide)) (by have := HR.out; omega) E1.length (Nat.le_refl _)
  rw [List.take_length] at h4
  have h5 := HR.out
  have h6 : (VM.nums ⟨k, fr, tt, vw, nm, ix, cm, bi, bv, base, E1⟩).length = 9 := rfl
  unfold vmB
  simp only [List.length_append]
  omega
theorem wr_end {w w' : World} {B p1 : Nat} {v : Value} {l : List UInt8} (h : Wr w (B + 1) B v l) (hp : p1 < B) (f : Fr w w' (fun k => k = p1)) : Wr w' (B + 1) B v l :=
  h.kept f (fun e => by omega) (fun k hk e => by
    rcases h.own.2 with ⟨rfl, -⟩ | ⟨g, cap, cur, rfl, hb, -⟩
    · cases hk
    · simp [Value.ownBlock] at hk
      omega)
theorem below_end {W W3 w5 w6 : World} {p1 : Nat} (h3 : Below W.heap.size W W3) (h5 : Below W3.heap.size W3 w5) (hp : W.heap.size = p1) (f : Fr w5 w6 (fun k => k = p1)) : Below W.heap.size W w6 := by
  have e := h3.trans (h5.mono h3.size)
  exact e.trans (f.below e.size (fun k hk => by omega))
set_option linter.unusedSimpArgs false in
set_option maxRecDepth 100000 in
set_option maxHeartbeats 8000000 in
theorem vb27 {W : World} {q bs pw : Nat} {v : Value} {k fr tt vw nm ix cm bi bv : Int} {base : ByteArray} {E1 : List Ent} {x0 x1 x2 x4 x5 x6 x7 x8 x9 x12 x13 x14 x15 x16 x17 x18 x19 x20 x21 x22 x23 x24 x25 x26 x27 x28 x29 x30 x31 x32 x33 x34 x35 x36 x37 x38 x39 x40 x41 x42 x43 x44 x45 x46 x47 x48 x49 x50 x51 x52 x53 x54 x55 x56 x57 x58 x59 x60 x61 x62 x63 x64 x65 x66 x67 x68 x69 x70 x71 x72 x73 x74 x75 x76 x77 x78 x79 x80 x81 x82 x83 x84 x85 x86 x87 x88 x89 x90 x91 x92 x93 x94 x95 x96 x97 x98 x99 x100 x101 x102 x103 x104 x105 x106 x107 x108 x109 x110 x111 x112 x113 x114 x115 x116 x117 x118 x119 x120 x121 x122 x123 x124 x125 x126 x127 x128 x129 x130 x131 x132 x133 x134 x135 x136 x137 x138 x139 x140 x141 x142 x143 x144 x145 x146 x147 x148 x149 x150 x151 x152 x153 x154 x155 x156 x157 x158 x159 x160 x161 x162 x163 x164 x165 x166 x167 x168 x169 x170 x171 x172 x173 x174 x175 x176 x177 x178 x179 x180 x181 x182 x183 x184 x185 x186 x187 x188 x189 x190 x191 x192 x193 x194 x195 x196 x197 x198 x199 x200 x201 x202 x203 x204 x205 x206 x207 x208 x209 x210 x211 x212 x213 x214 x215 x216 x217 x218 x219 x220 x221 x222 x223 x224 x225 x226 x227 x228 x229 x230 x231 x232 x233 x234 x235 x236 x237 x238 x239 x240 x241 x242 x243 x244 x245 x246 x247 x248 x249 x250 x251 x252 x253 x254 x255 x256 x257 x258 x259 : Value} {K : Act → World → Prop} {Q' : Exit → Act → World → Prop} (HW : Hid (Wr W bs pw v (vmB ⟨k, fr, tt, vw, nm, ix, cm, bi, bv, base, E1⟩))) (HM : Hid (∀ x ∈ VM.nums ⟨k, fr, tt, vw, nm, ix, cm, bi, bv, base, E1⟩, 0 ≤ x ∧ x ≤ 2147483647)) (HV : Hid (∀ x ∈ E1, 0 ≤ x.v ∧ x.v ≤ 2147483647)) (HS : Hid (∀ x ∈ E1, x.s.size ≤ 1048576)) (hl : E1.length ≤ 1000) (hbase : base.size ≤ 1048576) (HR : Hid (entsN E1 ≤ 900000000))
    (HC : ∀ (W' : World), Below W.heap.size W W' → ∀ (y6 y15 y16 y17 y177 y178 y179 y180 y181 y182 y183 y184 y185 y186 y187 y188 y189 y190 y191 y192 y193 y194 y195 y196 y197 y198 y199 : Value), K ⟨(List.toArray (x0 :: x1 :: x2 :: (.pointer (some ⟨q, 0, none⟩)) :: x4 :: x5 :: y6 :: x7 :: x8 :: x9 :: (.pointer (some ⟨pw, 0, none⟩)) :: (.string (str (vmB ⟨k, fr, tt, vw, nm, ix, cm, bi, bv, base, E1⟩))) :: x12 :: x13 :: x14 :: y15 :: y16 :: y17 :: x18 :: x19 :: x20 :: x21 :: x22 :: x23 :: x24 :: x25 :: x26 :: x27 :: x28 :: x29 :: x30 :: x31 :: x32 :: x33 :: x34 :: x35 :: x36 :: x37 :: x38 :: x39 :: x40 :: x41 :: x42 :: x43 :: x44 :: x45 :: x46 :: x47 :: x48 :: x49 :: x50 :: x51 :: x52 :: x53 :: x54 :: x55 :: x56 :: x57 :: x58 :: x59 :: x60 :: x61 :: x62 :: x63 :: x64 :: x65 :: x66 :: x67 :: x68 :: x69 :: x70 :: x71 :: x72 :: x73 :: x74 :: x75 :: x76 :: x77 :: x78 :: x79 :: x80 :: x81 :: x82 :: x83 :: x84 :: x85 :: x86 :: x87 :: x88 :: x89 :: x90 :: x91 :: x92 :: x93 :: x94 :: x95 :: x96 :: x97 :: x98 :: x99 :: x100 :: x101 :: x102 :: x103 :: x104 :: x105 :: x106 :: x107 :: x108 :: x109 :: x110 :: x111 :: x112 :: x113 :: x114 :: x115 :: x116 :: x117 :: x118 :: x119 :: x120 :: x121 :: x122 :: x123 :: x124 :: x125 :: x126 :: x127 :: x128 :: x129 :: x130 :: x131 :: x132 :: x133 :: x134 :: x135 :: x136 :: x137 :: x138 :: x139 :: x140 :: x141 :: x142 :: x143 :: x144 :: x145 :: x146 :: x147 :: x148 :: x149 :: x150 :: x151 :: x152 :: x153 :: x154 :: x155 :: x156 :: x157 :: x158 :: x159 :: x160 :: x161 :: x162 :: x163 :: x164 :: x165 :: x166 :: x167 :: x168 :: x169 :: x170 :: x171 :: x172 :: x173 :: x174 :: x175 :: x176 :: y177 :: y178 :: y179 :: y180 :: y181 :: y182 :: y183 :: y184 :: y185 :: y186 :: y187 :: y188 :: y189 :: y190 :: y191 :: y192 :: y193 :: y194 :: y195 :: y196 :: y197 :: y198 :: y199 :: x200 :: x201 :: x202 :: x203 :: x204 :: x205 :: x206 :: x207 :: x208 :: x209 :: x210 :: x211 :: x212 :: x213 :: x214 :: x215 :: x216 :: x217 :: x218 :: x219 :: x220 :: x221 :: x222 :: x223 :: x224 :: x225 :: x226 :: x227 :: x228 :: x229 :: x230 :: x231 :: x232 :: x233 :: x234 :: x235 :: x236 :: x237 :: x238 :: x239 :: x240 :: x241 :: x242 :: x243 :: x244 :: x245 :: x246 :: x247 :: x248 :: x249 :: x250 :: x251 :: x252 :: x253 :: x254 :: x255 :: x256 :: x257 :: x258 :: x259 :: [])), []⟩ W') :
    Code.wp Try.prog ((Try.f3.body.bind (fromRV 27)).getD .skip) (Exit.then K Q') ⟨(List.toArray (x0 :: x1 :: x2 :: (.pointer (some ⟨q, 0, none⟩)) :: x4 :: x5 :: x6 :: x7 :: x8 :: x9 :: (.pointer (some ⟨pw, 0, none⟩)) :: (.string (str (vmB ⟨k, fr, tt, vw, nm, ix, cm, bi, bv, base, E1⟩))) :: x12 :: x13 :: x14 :: x15 :: x16 :: x17 :: x18 :: x19 :: x20 :: x21 :: x22 :: x23 :: x24 :: x25 :: x26 :: x27 :: x28 :: x29 :: x30 :: x31 :: x32 :: x33 :: x34 :: x35 :: x36 :: x37 :: x38 :: x39 :: x40 :: x41 :: x42 :: x43 :: x44 :: x45 :: x46 :: x47 :: x48 :: x49 :: x50 :: x51 :: x52 :: x53 :: x54 :: x55 :: x56 :: x57 :: x58 :: x59 :: x60 :: x61 :: x62 :: x63 :: x64 :: x65 :: x66 :: x67 :: x68 :: x69 :: x70 :: x71 :: x72 :: x73 :: x74 :: x75 :: x76 :: x77 :: x78 :: x79 :: x80 :: x81 :: x82 :: x83 :: x84 :: x85 :: x86 :: x87 :: x88 :: x89 :: x90 :: x91 :: x92 :: x93 :: x94 :: x95 :: x96 :: x97 :: x98 :: x99 :: x100 :: x101 :: x102 :: x103 :: x104 :: x105 :: x106 :: x107 :: x108 :: x109 :: x110 :: x111 :: x112 :: x113 :: x114 :: x115 :: x116 :: x117 :: x118 :: x119 :: x120 :: x121 :: x122 :: x123 :: x124 :: x125 :: x126 :: x127 :: x128 :: x129 :: x130 :: x131 :: x132 :: x133 :: x134 :: x135 :: x136 :: x137 :: x138 :: x139 :: x140 :: x141 :: x142 :: x143 :: x144 :: x145 :: x146 :: x147 :: x148 :: x149 :: x150 :: x151 :: x152 :: x153 :: x154 :: x155 :: x156 :: x157 :: x158 :: x159 :: x160 :: x161 :: x162 :: x163 :: x164 :: x165 :: x166 :: x167 :: x168 :: x169 :: x170 :: x171 :: x172 :: x173 :: x174 :: x175 :: x176 :: x177 :: x178 :: x179 :: x180 :: x181 :: x182 :: x183 :: x184 :: x185 :: x186 :: x187 :: x188 :: x189 :: x190 :: x191 :: x192 :: x193 :: x194 :: x195 :: x196 :: x197 :: x198 :: x199 :: x200 :: x201 :: x202 :: x203 :: x204 :: x205 :: x206 :: x207 :: x208 :: x209 :: x210 :: x211 :: x212 :: x213 :: x214 :: x215 :: x216 :: x217 :: x218 :: x219 :: x220 :: x221 :: x222 :: x223 :: x224 :: x225 :: x226 :: x227 :: x228 :: x229 :: x230 :: x231 :: x232 :: x233 :: x234 :: x235 :: x236 :: x237 :: x238 :: x239 :: x240 :: x241 :: x242 :: x243 :: x244 :: x245 :: x246 :: x247 :: x248 :: x249 :: x250 :: x251 :: x252 :: x253 :: x254 :: x255 :: x256 :: x257 :: x258 :: x259 :: [])), []⟩ W := by
  have HC' : Hid _ := HC
  clear HC
  have HLn : Hid ((vmB ⟨k, fr, tt, vw, nm, ix, cm, bi, bv, base, E1⟩).length ≤ 1000000000) := vmB_len HM HV hl hbase HR
  obtain ⟨R, hR⟩ : ∃ R, vmB ⟨k, fr, tt, vw, nm, ix, cm, bi, bv, base, E1⟩ = R := ⟨_, rfl⟩
  have HRe : Hid (vmB ⟨k, fr, tt, vw, nm, ix, cm, bi, bv, base, E1⟩ = R) := hR
  rw [hR] at HW HLn ⊢
  rw [hR] at HC'
  clear hR
  have hsz : (str R).size ≤ maxLen := by rw [str_size]; exact Nat.le_trans HLn.out (by decide)
  have hdt : (str R).data.toList = vmB ⟨k, fr, tt, vw, nm, ix, cm, bi, bv, base, E1⟩ := by rw [HRe.out]; simp [str]
  have HDt : Hid _ := hdt
  have HEs : Hid (∀ x ∈ E1, 0 ≤ x.v ∧ x.v ≤ 2147483647 ∧ x.s.size < 18446744073709551616) := fun x hx => ⟨(HV.out x hx).1, (HV.out x hx).2, by have := HS.out x hx; omega⟩
  have hbs : base.size < 18446744073709551616 := by omega
  clear hdt
  conv => arg 2; whnf
  go_upto_region 28 with (go_at_call 14; refine (newreader_any (str R) _).mono ?_; rintro r w1 ⟨rfl, hr1, hb1⟩)
  obtain ⟨p1, hp1⟩ : ∃ p, W.heap.size = p := ⟨_, rfl⟩
  rw [hp1] at hr1 ⊢
  have HR1 : Hid (Rd w1 p1 (str R) 0 0) := hr1
  have HB1 : Hid (Below p1 W w1) := by rw [← hp1]; exact hb1
  have HP1 : Hid (W.heap.size = p1) := hp1
  clear hr1 hb1 hp1
  go_upto_region 29 with (first
    | (go_at_call 15; refine (take_enc ⟨k, fr, tt, vw, nm, ix, cm, bi, bv, base, E1⟩ HR1.out hsz HDt.out HM.out hl HEs.out hbs).mono ?_; rintro r w2 ⟨⟨ev, rfl, hE2⟩, hr2, hf2⟩; obtain ⟨eo, ec, rfl⟩ := own_shape hE2; have HE2 : Hid (EnO w2 w1.heap.size (.slice eo E1.length ec) E1) := hE2; have HR2 : Hid (Rd w2 p1 (str R) (str R).size 0) := hr2; have HF2 : Hid _ := hf2; clear hr2 hf2 hE2; simp only [vmV])
    | (refine wpList_store_row rfl 24 _ _ rfl _ #[.int .i64 k, .int .i64 fr, .int .i64 tt, .int .i64 vw, .int .i64 nm, .int .i64 ix, .int .i64 cm, .int .i64 bi, .int .i64 bv, .string base, .slice eo E1.length ec] rfl rfl 24 #[.int .i64 0, .int .i64 0, .int .i64 0, .int .i64 0, .int .i64 0, .int .i64 0, .int .i64 0, .int .i64 0, .int .i64 0, .string (str []), .slice none 0 0] (heap_alloc_new _ _) size_vm rfl (by simp [Value.oneCell']) ?_))
  generalize hW3 : World.setRow _ _ _ = W3
  have hbx : W3.heap[w2.heap.size]? = some (.cells #[.int .i64 k, .int .i64 fr, .int .i64 tt, .int .i64 vw, .int .i64 nm, .int .i64 ix, .int .i64 cm, .int .i64 bi, .int .i64 bv, .string base, .slice eo E1.length ec] 24 (0, 0)) := by rw [← hW3]; exact setRow_heap _ _ _ _ _ _ (heap_alloc_new _ _)
  have hb3 : Below w2.heap.size w2 W3 := by rw [← hW3]; exact ((Fr.alloc w2 _ (fun _ => False)).trans (vfr_setRow _ _ _) (fun i hi e => absurd e (by omega))).below (Nat.le_refl _) (fun _ h => h.elim)
  have HR3 : Hid (Rd W3 p1 (str R) (str R).size 0) := Rd.newB HR2.out hb3
  have HB3 : Hid (Below W.heap.size W W3) := by
    have hp := HP1.out
    have e1 := HB1.out
    have e2 : Below p1 w1 w2 := HF2.out.below (by have := e1.size; omega) (fun k hk => by omega)
    have e3 : Below p1 W w2 := e1.trans e2
    rw [hp]
    exact e3.trans (hb3.mono (by have := e3.size; omega))
  have HE3 : Hid (EnO W3 w1.heap.size (.slice eo E1.length ec) E1) := HE2.out.new hb3
  have HW3 : Hid (Wr W3 bs pw v R) := HW.out.newB HB3.out
  obtain ⟨qq, hq⟩ : ∃ q, w2.heap.size = q := ⟨_, rfl⟩
  rw [hq] at hbx ⊢
  have HBx : Hid _ := hbx
  clear hW3 hbx hq hb3
  have tk1 : Hid True := trivial
  have HLt : Hid (p1 < W3.heap.size) := vlt_blk HR3.out
  have HRd : Hid (rdEnd (str R) (str R).size 0 = 0) := by show _ = _; simp [rdEnd]
  go_wp2_with (first
    | (go_at_call 10; refine (newwriter_any _).mono ?_; rintro r w4 ⟨rfl, hw4, hb4⟩; have W4 : Hid _ := hw4; have B4 : Hid _ := hb4; have HBx4 : Hid _ := (hb4.block qq (vlt_blk HBx.out)).trans HBx.out; clear hw4 hb4)
    | (refine wpList_load_row rfl 24 _ rfl qq rfl 24 #[.int .i64 k, .int .i64 fr, .int .i64 tt, .int .i64 vw, .int .i64 nm, .int .i64 ix, .int .i64 cm, .int .i64 bi, .int .i64 bv, .string base, .slice eo E1.length ec] (0, 0) _ HBx4.out Try.underlying24 rfl size_vm ?_)
    | (go_at_call 11; refine (put_any ⟨k, fr, tt, vw, nm, ix, cm, bi, bv, base, E1⟩ ec W4.out (vput_at HE3.out B4.out) (fun x hx => Int.le_trans (HM.out x hx).2 (by decide)) (fun x hx => Int.le_trans (HV.out x hx).2 (by decide)) (Nat.le_trans hl (by decide)) (by show 0 + base.size + entsN E1 + 200 ≤ _; have := HR.out; omega)).mono ?_; rintro r w5 ⟨rfl, v5, hw5, hf5, -⟩; rw [List.nil_append, HRe.out] at hw5; have W5 : Hid (Wr w5 (W3.heap.size + 1) W3.heap.size v5 R) := hw5; have B5 : Hid _ := vpair B4.out hf5; clear hw5 hf5)
    | (go_at_call 16; first
      | (have _t := tk1; refine (wall_any (HW3.out.newB B5.out)).mono ?_; rintro r wz ⟨rfl, hz⟩; rw [hz]; clear hz tk1)
      | (refine (wall_any W6.out).mono ?_; rintro r wz ⟨rfl, hz⟩; rw [hz]; clear hz))
    | (go_at_call 17; refine (rend_any (Rd.newB HR3.out B5.out) hsz (Nat.le_refl _)).mono ?_; rintro r w6 ⟨rfl, -, hf6⟩; rw [HRd.out]; have W6 : Hid (Wr w6 (W3.heap.size + 1) W3.heap.size v5 R) := wr_end W5.out HLt.out hf6; have HB6 : Hid (Below W.heap.size W w6) := below_end HB3.out B5.out HP1.out hf6; clear hf6))
  apply HC'.out _ HB6.out
end Go.Proofs.Ytckjjajncgmddaa
