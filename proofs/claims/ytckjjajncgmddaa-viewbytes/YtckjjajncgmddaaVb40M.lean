import Derived.Test.YtckjjajncgmddaaVbCM
/- ViewBytes: any bytes are a message, or none. -/
namespace Go.Proofs.Ytckjjajncgmddaa
open Go.RowKit
attribute [local go_sem] Oper.semAt_some
/-- take_says, with one form of what it returns. -/
theorem take_form {w : World} {p : Nat} {s : ByteArray} (h : Rd w p s 0 0) (hs : s.size ≤ maxLen) :
    Calls Try.prog 15 #[.pointer (some ⟨p, 0, none⟩)] w fun r w' => ∃ (aF : Nat) (eF : Int) (m : VM) (eo : Option Addr) (ec : Nat), r = .returned (vmV m (.slice eo m.en.length ec)) ∧ Rd w' p s aF eF ∧ Fr w w' (fun k => k = p) ∧ aF ≤ s.size ∧ ((eF = 0 ∧ EnO w' w.heap.size (.slice eo m.en.length ec) m.en ∧ s.data.toList.take aF = vmB m ∧ (∀ x ∈ m.nums, 0 ≤ x ∧ x ≤ 2147483647) ∧ (∀ x ∈ m.en, 0 ≤ x.v ∧ x.v ≤ 2147483647) ∧ m.en.length ≤ 1000) ∨ (eF ≠ 0 ∧ m = ⟨0, 0, 0, 0, 0, 0, 0, 0, 0, str [], []⟩ ∧ eo = none ∧ ec = 0)) := by
  refine (take_says h hs).mono ?_
  rintro r w' ⟨aF, eF, h1, h2, h3, h4⟩
  rcases h4 with ⟨he, m, ev, rfl, hE, r1, r2, r3, r4⟩ | ⟨he, rfl⟩
  · obtain ⟨ao, c, rfl⟩ := own_shape hE
    exact ⟨aF, eF, m, ao, c, rfl, h1, h2, h3, .inl ⟨he, hE, r1, r2, r3, r4⟩⟩
  · exact ⟨aF, eF, ⟨0, 0, 0, 0, 0, 0, 0, 0, 0, str [], []⟩, none, 0, rfl, h1, h2, h3, .inr ⟨he, rfl, rfl, rfl⟩⟩
set_option linter.unusedSimpArgs false in
set_option maxRecDepth 100000 in
set_option maxHeartbeats 8000000 in
theorem vb40 {W : World} {s : ByteArray} {x0 x2 x3 x4 x5 x6 x7 x8 x9 x10 x11 x12 x13 x14 x15 x16 x17 x18 x19 x20 x21 x22 x23 x24 x25 x26 x27 x28 x29 x30 x31 x32 x33 x34 x35 x36 x37 x38 x39 x40 x41 x42 x43 x44 x45 x46 x47 x48 x49 x50 x51 x52 x53 x54 x55 x56 x57 x58 x59 x60 x61 x62 x63 x64 x65 x66 x67 x68 x69 x70 x71 x72 x73 x74 x75 x76 x77 x78 x79 x80 x81 x82 x83 x84 x85 x86 x87 x88 x89 x90 x91 x92 x93 x94 x95 x96 x97 x98 x99 x100 x101 x102 x103 x104 x105 x106 x107 x108 x109 x110 x111 x112 x113 x114 x115 x116 x117 x118 x119 x120 x121 x122 x123 x124 x125 x126 x127 x128 x129 x130 x131 x132 x133 x134 x135 x136 x137 x138 x139 x140 x141 x142 x143 x144 x145 x146 x147 x148 x149 x150 x151 x152 x153 x154 x155 x156 x157 x158 x159 x160 x161 x162 x163 x164 x165 x166 x167 x168 x169 x170 x171 x172 x173 x174 x175 x176 x177 x178 x179 x180 x181 x182 x183 x184 x185 x186 x187 x188 x189 x190 x191 x192 x193 x194 x195 x196 x197 x198 x199 x200 x201 x202 x203 x204 x205 x206 x207 x208 x209 x210 x211 x212 x213 x214 x215 x216 x217 x218 x219 x220 x221 x222 x223 x224 x225 x226 x227 x228 x229 x230 x231 x232 x233 x234 x235 x236 x237 x238 x239 x240 x241 x242 x243 x244 x245 x246 x247 x248 x249 x250 x251 x252 x253 x254 x255 x256 x257 x258 x259 : Value} {Q : Exit → Act → World → Prop} (hs : s.size ≤ 1048576) (HQ : ∀ (a : Act) (w' : World), a.tmps.getD 6 undef = .bool true → a.defers = [] → Below W.heap.size W w' → Q .ret a w') :
    Code.wp Try.prog ((Try.f3.body.bind (fromRV 40)).getD .skip) Q ⟨(List.toArray (x0 :: (.string s) :: x2 :: x3 :: x4 :: x5 :: x6 :: x7 :: x8 :: x9 :: x10 :: x11 :: x12 :: x13 :: x14 :: x15 :: x16 :: x17 :: x18 :: x19 :: x20 :: x21 :: x22 :: x23 :: x24 :: x25 :: x26 :: x27 :: x28 :: x29 :: x30 :: x31 :: x32 :: x33 :: x34 :: x35 :: x36 :: x37 :: x38 :: x39 :: x40 :: x41 :: x42 :: x43 :: x44 :: x45 :: x46 :: x47 :: x48 :: x49 :: x50 :: x51 :: x52 :: x53 :: x54 :: x55 :: x56 :: x57 :: x58 :: x59 :: x60 :: x61 :: x62 :: x63 :: x64 :: x65 :: x66 :: x67 :: x68 :: x69 :: x70 :: x71 :: x72 :: x73 :: x74 :: x75 :: x76 :: x77 :: x78 :: x79 :: x80 :: x81 :: x82 :: x83 :: x84 :: x85 :: x86 :: x87 :: x88 :: x89 :: x90 :: x91 :: x92 :: x93 :: x94 :: x95 :: x96 :: x97 :: x98 :: x99 :: x100 :: x101 :: x102 :: x103 :: x104 :: x105 :: x106 :: x107 :: x108 :: x109 :: x110 :: x111 :: x112 :: x113 :: x114 :: x115 :: x116 :: x117 :: x118 :: x119 :: x120 :: x121 :: x122 :: x123 :: x124 :: x125 :: x126 :: x127 :: x128 :: x129 :: x130 :: x131 :: x132 :: x133 :: x134 :: x135 :: x136 :: x137 :: x138 :: x139 :: x140 :: x141 :: x142 :: x143 :: x144 :: x145 :: x146 :: x147 :: x148 :: x149 :: x150 :: x151 :: x152 :: x153 :: x154 :: x155 :: x156 :: x157 :: x158 :: x159 :: x160 :: x161 :: x162 :: x163 :: x164 :: x165 :: x166 :: x167 :: x168 :: x169 :: x170 :: x171 :: x172 :: x173 :: x174 :: x175 :: x176 :: x177 :: x178 :: x179 :: x180 :: x181 :: x182 :: x183 :: x184 :: x185 :: x186 :: x187 :: x188 :: x189 :: x190 :: x191 :: x192 :: x193 :: x194 :: x195 :: x196 :: x197 :: x198 :: x199 :: x200 :: x201 :: x202 :: x203 :: x204 :: x205 :: x206 :: x207 :: x208 :: x209 :: x210 :: x211 :: x212 :: x213 :: x214 :: x215 :: x216 :: x217 :: x218 :: x219 :: x220 :: x221 :: x222 :: x223 :: x224 :: x225 :: x226 :: x227 :: x228 :: x229 :: x230 :: x231 :: x232 :: x233 :: x234 :: x235 :: x236 :: x237 :: x238 :: x239 :: x240 :: x241 :: x242 :: x243 :: x244 :: x245 :: x246 :: x247 :: x248 :: x249 :: x250 :: x251 :: x252 :: x253 :: x254 :: x255 :: x256 :: x257 :: x258 :: x259 :: [])), []⟩ W := by
  have HQ' : Hid _ := HQ
  clear HQ
  conv => arg 2; whnf
  go_upto_region 41 with (go_at_call 14; refine (newreader_any s _).mono ?_; rintro r w1 ⟨rfl, hr1, hb1⟩)
  obtain ⟨p1, hp1⟩ : ∃ p, W.heap.size = p := ⟨_, rfl⟩
  rw [hp1] at hr1 ⊢
  have HR1 : Hid (Rd w1 p1 s 0 0) := hr1
  clear hr1
  go_upto_region 42 with (first
    | (go_at_call 15; refine (take_form HR1.out (Nat.le_trans hs (by decide))).mono ?_; rintro r w2 ⟨aF, eF, m, eo, ec, rfl, hr2, hf2, haF, hcs⟩; obtain ⟨k, fr, tt, vw, nm, ix, cm, bi, bv, base, E⟩ := m; have HR2 : Hid (Rd w2 p1 s aF eF) := hr2; have HF2 : Hid _ := hf2; have HCs : Hid _ := hcs; clear hr2 hf2 hcs; simp only [vmV])
    | (refine wpList_store_row rfl 24 _ _ rfl _ #[.int .i64 k, .int .i64 fr, .int .i64 tt, .int .i64 vw, .int .i64 nm, .int .i64 ix, .int .i64 cm, .int .i64 bi, .int .i64 bv, .string base, .slice eo E.length ec] rfl rfl 24 #[.int .i64 0, .int .i64 0, .int .i64 0, .int .i64 0, .int .i64 0, .int .i64 0, .int .i64 0, .int .i64 0, .int .i64 0, .string (str []), .slice none 0 0] (heap_alloc_new _ _) size_vm rfl (by simp [Value.oneCell']) ?_))
  generalize hW3 : World.setRow _ _ _ = W3
  have hbx : W3.heap[w2.heap.size]? = some (.cells #[.int .i64 k, .int .i64 fr, .int .i64 tt, .int .i64 vw, .int .i64 nm, .int .i64 ix, .int .i64 cm, .int .i64 bi, .int .i64 bv, .string base, .slice eo E.length ec] 24 (0, 0)) := by rw [← hW3]; exact setRow_heap _ _ _ _ _ _ (heap_alloc_new _ _)
  have hb3 : Below w2.heap.size w2 W3 := by rw [← hW3]; exact ((Fr.alloc w2 _ (fun _ => False)).trans (vfr_setRow _ _ _) (fun i hi e => absurd e (by omega))).below (Nat.le_refl _) (fun _ h => h.elim)
  have HR3 : Hid (Rd W3 p1 s aF eF) := Rd.newB HR2.out hb3
  have HB3 : Hid (Below W.heap.size W W3) := by
    have e2 : Below W.heap.size w1 w2 := HF2.out.below hb1.size (fun k hk => by omega)
    have e3 : Below W.heap.size W w2 := hb1.trans e2
    exact e3.trans (hb3.mono e3.size)
  obtain ⟨q, hq⟩ : ∃ q, w2.heap.size = q := ⟨_, rfl⟩
  rw [hq] at hbx ⊢
  have HBx : Hid _ := hbx
  obtain ⟨x0', x1', x2', x3', x4', x5', x6', x7', x8', x9', x10'⟩ := vmbox hbx
  clear hW3 hbx
  by_cases he : eF = 0
  · subst he
    have HE : Hid (EnO W3 w1.heap.size (.slice eo E.length ec) E) := by
      rcases HCs.out with ⟨-, h, -⟩ | ⟨h, -⟩
      · exact h.new hb3
      · exact absurd rfl h
    have HT : Hid (s.data.toList.take aF = vmB ⟨k, fr, tt, vw, nm, ix, cm, bi, bv, base, E⟩ ∧ (∀ x ∈ VM.nums ⟨k, fr, tt, vw, nm, ix, cm, bi, bv, base, E⟩, 0 ≤ x ∧ x ≤ 2147483647) ∧ (∀ x ∈ E, 0 ≤ x.v ∧ x.v ≤ 2147483647) ∧ E.length ≤ 1000) := by
      rcases HCs.out with ⟨-, -, h⟩ | ⟨h, -⟩
      · exact h
      · exact absurd rfl h
    have hEq : Hid (str (vmB ⟨k, fr, tt, vw, nm, ix, cm, bi, bv, base, E⟩) = s.extract 0 aF) := by
      show _ = _
      rw [← HT.out.1]
      apply ByteArray.ext
      simp [str, ByteArray.data_extract]
      rw [← Array.toList_inj]
      simp [Array.toList_extract, List.extract]
    have HRoom : Hid (base.size + entsN E + 200 ≤ 1000000000) := by
      have h1 := congrArg List.length HT.out.1
      have h2 := entsN_le E
      have h3 := HT.out.2.2.2
      have h4 := textB_le base.data.toList
      have h5 : (s.data.toList.take aF).length ≤ s.size := by rw [List.length_take]; have : s.data.toList.length = s.size := by simp
                                                              omega
      have h6 : base.data.toList.length = base.size := by simp
      unfold vmB at h1
      simp only [List.length_append] at h1
      show _ ≤ _
      omega
    clear HCs
    have haI : (aF : Int) ≤ s.size := by omega
    go_wp2_with (first
      | (go_at_call 20; refine (err_any HR3.out).mono ?_; rintro r wz ⟨rfl, hz⟩; rw [hz]; clear hz)
      | (go_at_call 10; refine (newwriter_any _).mono ?_; rintro r w4 ⟨rfl, hw4, hb4⟩; have W4 : Hid _ := hw4; have B4 : Hid _ := hb4; have HBx4 : Hid _ := (hb4.block q (vlt_blk HBx.out)).trans HBx.out; clear hw4 hb4)
      | (refine wpList_load_row rfl 24 _ rfl q rfl 24 #[.int .i64 k, .int .i64 fr, .int .i64 tt, .int .i64 vw, .int .i64 nm, .int .i64 ix, .int .i64 cm, .int .i64 bi, .int .i64 bv, .string base, .slice eo E.length ec] (0, 0) _ HBx4.out Try.underlying24 rfl size_vm ?_)
      | (go_at_call 11; refine (put_any ⟨k, fr, tt, vw, nm, ix, cm, bi, bv, base, E⟩ ec W4.out (vput_at HE.out B4.out) (fun x hx => Int.le_trans (HT.out.2.1 x hx).2 (by decide)) (fun x hx => Int.le_trans (HT.out.2.2.1 x hx).2 (by decide)) (Nat.le_trans HT.out.2.2.2 (by decide)) (by show 0 + base.size + entsN E + 200 ≤ _; have := HRoom.out; omega)).mono ?_; rintro r w5 ⟨rfl, v5, hw5, hf5, -⟩; have W5 : Hid _ := hw5; have HR5 : Hid (Rd w5 p1 s aF 0) := Rd.newB HR3.out (vpair B4.out hf5); have HB5 : Hid _ := bel2 HB3.out (vpair B4.out hf5); clear hw5 hf5)
      | (go_at_call 16; refine (wall_any W5.out).mono ?_; rintro r wz ⟨rfl, hz⟩; rw [hz, List.nil_append, hEq.out]; clear hz)
      | (go_at_call 21; refine (at_any HR5.out).mono ?_; rintro r wz ⟨rfl, hz⟩; rw [hz]; clear hz))
    exact HQ'.out _ _ (by simp) rfl HB5.out
  · have heb : (eF == 0) = false := by simpa using he
    have hec : (eF != 0) = true := by simpa using he
    obtain ⟨hm, hn1, hn2⟩ : VM.mk k fr tt vw nm ix cm bi bv base E = ⟨0, 0, 0, 0, 0, 0, 0, 0, 0, str [], []⟩ ∧ eo = none ∧ ec = 0 := by
      rcases HCs.out with ⟨h, -⟩ | ⟨-, h⟩
      · exact absurd h he
      · exact h
    cases hm
    subst hn1 hn2
    go_wp2_with (go_at_call 20; refine (err_any HR3.out).mono ?_; rintro r wz ⟨rfl, hz⟩; rw [hz]; clear hz)
    exact HQ'.out _ _ (by simp) rfl HB3.out
end Go.Proofs.Ytckjjajncgmddaa
