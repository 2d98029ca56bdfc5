import Derived.Test.YtckjjajncgmddaaVbCM
/- ViewBytes: are the views of entries numbers? -/
namespace Go.Proofs.Ytckjjajncgmddaa
open Go.RowKit
attribute [local go_sem] Oper.semAt_some
theorem vall_snoc (E : List Ent) (j : Nat) (h : j < E.length) : (E.take (j + 1)).all (fun e => numI e.v) = ((E.take j).all (fun e => numI e.v) && numI E[j].v) := by
  rw [List.take_succ_eq_append_getElem h, List.all_append]
  simp
set_option linter.unusedSimpArgs false in
set_option maxRecDepth 100000 in
set_option maxHeartbeats 8000000 in
theorem vb10 {W : World} {q : Nat} {ao : Option Addr} {n1 cap : Nat} {E1 : List Ent} {x0 x1 x2 x4 x5 x6 x7 x10 x11 x12 x13 x14 x15 x16 x17 x18 x19 x20 x21 x22 x23 x24 x25 x26 x27 x28 x29 x30 x31 x32 x33 x34 x35 x36 x37 x38 x39 x40 x41 x42 x43 x44 x45 x46 x47 x48 x49 x50 x51 x52 x53 x54 x55 x56 x57 x58 x59 x60 x61 x62 x63 x64 x65 x66 x67 x68 x69 x70 x71 x72 x73 x74 x75 x76 x77 x78 x79 x80 x81 x82 x83 x84 x85 x86 x87 x88 x89 x90 x91 x92 x93 x94 x95 x96 x97 x98 x99 x100 x101 x102 x103 x104 x105 x106 x107 x108 x109 x110 x111 x112 x113 x114 x115 x116 x117 x118 x119 x120 x121 x122 x123 x124 x125 x126 x127 x128 x129 x130 x131 x132 x133 x134 x135 x136 x137 x138 x139 x140 x141 x142 x143 x144 x145 x146 x147 x148 x149 x150 x151 x152 x153 x154 x155 x156 x157 x158 x159 x160 x161 x162 x163 x164 x165 x166 x167 x168 x169 x170 x171 x172 x173 x174 x175 x176 x177 x178 x179 x180 x181 x182 x183 x184 x185 x186 x187 x188 x189 x190 x191 x192 x193 x194 x195 x196 x197 x198 x199 x200 x201 x202 x203 x204 x205 x206 x207 x208 x209 x210 x211 x212 x213 x214 x215 x216 x217 x218 x219 x220 x221 x222 x223 x224 x225 x226 x227 x228 x229 x230 x231 x232 x233 x234 x235 x236 x237 x238 x239 x240 x241 x242 x243 x244 x245 x246 x247 x248 x249 x250 x251 x252 x253 x254 x255 x256 x257 x258 x259 : Value} {okb : Bool} {K : Act → World → Prop} {Q' : Exit → Act → World → Prop} (c10 : W.cell? ⟨q, 10, none⟩ = some (.slice ao n1 cap)) (HE : Hid (EnS W (.slice ao n1 cap) E1)) (hlen : E1.length = n1) (hn1 : n1 ≤ 1001)
    (HC : ∀ (W' : World), Below W.heap.size W W' → ∀ (y9 y100 y101 y102 y103 y104 y105 y106 y107 y108 y109 y110 y111 y112 y113 y114 y115 y116 y117 : Value), K ⟨(List.toArray (x0 :: x1 :: x2 :: (.pointer (some ⟨q, 0, none⟩)) :: x4 :: x5 :: x6 :: x7 :: (.bool (okb && E1.all (fun e => numI e.v))) :: y9 :: x10 :: x11 :: x12 :: x13 :: x14 :: x15 :: x16 :: x17 :: x18 :: x19 :: x20 :: x21 :: x22 :: x23 :: x24 :: x25 :: x26 :: x27 :: x28 :: x29 :: x30 :: x31 :: x32 :: x33 :: x34 :: x35 :: x36 :: x37 :: x38 :: x39 :: x40 :: x41 :: x42 :: x43 :: x44 :: x45 :: x46 :: x47 :: x48 :: x49 :: x50 :: x51 :: x52 :: x53 :: x54 :: x55 :: x56 :: x57 :: x58 :: x59 :: x60 :: x61 :: x62 :: x63 :: x64 :: x65 :: x66 :: x67 :: x68 :: x69 :: x70 :: x71 :: x72 :: x73 :: x74 :: x75 :: x76 :: x77 :: x78 :: x79 :: x80 :: x81 :: x82 :: x83 :: x84 :: x85 :: x86 :: x87 :: x88 :: x89 :: x90 :: x91 :: x92 :: x93 :: x94 :: x95 :: x96 :: x97 :: x98 :: x99 :: y100 :: y101 :: y102 :: y103 :: y104 :: y105 :: y106 :: y107 :: y108 :: y109 :: y110 :: y111 :: y112 :: y113 :: y114 :: y115 :: y116 :: y117 :: x118 :: x119 :: x120 :: x121 :: x122 :: x123 :: x124 :: x125 :: x126 :: x127 :: x128 :: x129 :: x130 :: x131 :: x132 :: x133 :: x134 :: x135 :: x136 :: x137 :: x138 :: x139 :: x140 :: x141 :: x142 :: x143 :: x144 :: x145 :: x146 :: x147 :: x148 :: x149 :: x150 :: x151 :: x152 :: x153 :: x154 :: x155 :: x156 :: x157 :: x158 :: x159 :: x160 :: x161 :: x162 :: x163 :: x164 :: x165 :: x166 :: x167 :: x168 :: x169 :: x170 :: x171 :: x172 :: x173 :: x174 :: x175 :: x176 :: x177 :: x178 :: x179 :: x180 :: x181 :: x182 :: x183 :: x184 :: x185 :: x186 :: x187 :: x188 :: x189 :: x190 :: x191 :: x192 :: x193 :: x194 :: x195 :: x196 :: x197 :: x198 :: x199 :: x200 :: x201 :: x202 :: x203 :: x204 :: x205 :: x206 :: x207 :: x208 :: x209 :: x210 :: x211 :: x212 :: x213 :: x214 :: x215 :: x216 :: x217 :: x218 :: x219 :: x220 :: x221 :: x222 :: x223 :: x224 :: x225 :: x226 :: x227 :: x228 :: x229 :: x230 :: x231 :: x232 :: x233 :: x234 :: x235 :: x236 :: x237 :: x238 :: x239 :: x240 :: x241 :: x242 :: x243 :: x244 :: x245 :: x246 :: x247 :: x248 :: x249 :: x250 :: x251 :: x252 :: x253 :: x254 :: x255 :: x256 :: x257 :: x258 :: x259 :: [])), []⟩ W') :
    Code.wp Try.prog ((Try.f3.body.bind (inBlkV 0)).getD .skip) (Exit.inBlock 0 (Exit.then K Q')) ⟨(List.toArray (x0 :: x1 :: x2 :: (.pointer (some ⟨q, 0, none⟩)) :: x4 :: x5 :: x6 :: x7 :: (.bool okb) :: (.int .i64 0) :: x10 :: x11 :: x12 :: x13 :: x14 :: x15 :: x16 :: x17 :: x18 :: x19 :: x20 :: x21 :: x22 :: x23 :: x24 :: x25 :: x26 :: x27 :: x28 :: x29 :: x30 :: x31 :: x32 :: x33 :: x34 :: x35 :: x36 :: x37 :: x38 :: x39 :: x40 :: x41 :: x42 :: x43 :: x44 :: x45 :: x46 :: x47 :: x48 :: x49 :: x50 :: x51 :: x52 :: x53 :: x54 :: x55 :: x56 :: x57 :: x58 :: x59 :: x60 :: x61 :: x62 :: x63 :: x64 :: x65 :: x66 :: x67 :: x68 :: x69 :: x70 :: x71 :: x72 :: x73 :: x74 :: x75 :: x76 :: x77 :: x78 :: x79 :: x80 :: x81 :: x82 :: x83 :: x84 :: x85 :: x86 :: x87 :: x88 :: x89 :: x90 :: x91 :: x92 :: x93 :: x94 :: x95 :: x96 :: x97 :: x98 :: x99 :: x100 :: x101 :: x102 :: x103 :: x104 :: x105 :: x106 :: x107 :: x108 :: x109 :: x110 :: x111 :: x112 :: x113 :: x114 :: x115 :: x116 :: x117 :: x118 :: x119 :: x120 :: x121 :: x122 :: x123 :: x124 :: x125 :: x126 :: x127 :: x128 :: x129 :: x130 :: x131 :: x132 :: x133 :: x134 :: x135 :: x136 :: x137 :: x138 :: x139 :: x140 :: x141 :: x142 :: x143 :: x144 :: x145 :: x146 :: x147 :: x148 :: x149 :: x150 :: x151 :: x152 :: x153 :: x154 :: x155 :: x156 :: x157 :: x158 :: x159 :: x160 :: x161 :: x162 :: x163 :: x164 :: x165 :: x166 :: x167 :: x168 :: x169 :: x170 :: x171 :: x172 :: x173 :: x174 :: x175 :: x176 :: x177 :: x178 :: x179 :: x180 :: x181 :: x182 :: x183 :: x184 :: x185 :: x186 :: x187 :: x188 :: x189 :: x190 :: x191 :: x192 :: x193 :: x194 :: x195 :: x196 :: x197 :: x198 :: x199 :: x200 :: x201 :: x202 :: x203 :: x204 :: x205 :: x206 :: x207 :: x208 :: x209 :: x210 :: x211 :: x212 :: x213 :: x214 :: x215 :: x216 :: x217 :: x218 :: x219 :: x220 :: x221 :: x222 :: x223 :: x224 :: x225 :: x226 :: x227 :: x228 :: x229 :: x230 :: x231 :: x232 :: x233 :: x234 :: x235 :: x236 :: x237 :: x238 :: x239 :: x240 :: x241 :: x242 :: x243 :: x244 :: x245 :: x246 :: x247 :: x248 :: x249 :: x250 :: x251 :: x252 :: x253 :: x254 :: x255 :: x256 :: x257 :: x258 :: x259 :: [])), []⟩ W := by
  have HC' : Hid _ := HC
  clear HC
  conv => arg 2; whnf
  go_loopw [8, 9] (fun o i wr => ∃ (j : Nat) (bb : Bool), j ≤ n1 ∧ i = .int .i64 j ∧ o = .bool bb ∧ Hid (bb = (okb && (E1.take j).all (fun e => numI e.v))) ∧ Hid (Below W.heap.size W wr)) (fun _ i _ => n1 - (intOf i).toNat)
  case atStart => exact ⟨0, okb, Nat.zero_le _, rfl, rfl, by show _ = _; simp, Below.refl _ _⟩
  case round =>
    obtain ⟨j, bb, hj, rfl, rfl, HBb, HB⟩ := hrel
    by_cases hlt : j < n1
    · have hjI : (j : Int) < n1 := by omega
      have hlt' : j < E1.length := by have := hlen; omega
      have hj0 : (0 : Int) ≤ j := by omega
      obtain ⟨b, off, rfl, c0, c1⟩ : ∃ b off, ao = some ⟨b, off, none⟩ ∧ wr.cell? ⟨b, off + j * 2, none⟩ = some (.int .i64 E1[j].v) ∧ wr.cell? ⟨b, off + j * 2 + 1, none⟩ = some (.string E1[j].s) := by
        obtain ⟨ao', cap', e, -, h2⟩ := HE.out.new HB.out
        injection e with e1 e2 e3
        subst e1
        obtain ⟨b, off, e, hc⟩ := h2 (by omega)
        exact ⟨b, off, e, hc j hlt'⟩
      have x10' := (HB.out.cell (p := ⟨q, 10, none⟩) (vlt_cell c10)).trans c10
      have HSn : Hid _ := vall_snoc E1 j hlt'
      obtain ⟨⟨ev, es⟩, he⟩ : ∃ e, E1[j] = e := ⟨_, rfl⟩
      rw [he] at c0 HSn
      simp only at c0
      clear c1 he
      cases bb with
      | false =>
        have HF : Hid (false = (okb && (E1.take (j + 1)).all (fun e => numI e.v))) := by
          show _ = _
          rw [HSn.out, ← Bool.and_assoc, ← HBb.out]
          rfl
        go_wp2
        go_roundw
        case rel => exact ⟨j + 1, false, by omega, by go_num, rfl, HF, HB⟩
        case measure => simp [intOf]; omega
      | true =>
        have HF : Hid (numI ev = (okb && (E1.take (j + 1)).all (fun e => numI e.v))) := by
          show _ = _
          rw [HSn.out, ← Bool.and_assoc, ← HBb.out]
          rfl
        have HNum : Hid (Calls Try.prog 6 #[.slice (some ⟨wr.heap.size, 0, none⟩) 1 1] (wr.alloc (.cells #[.int .i64 ev] 3)) fun r w' => r = .returned (.bool (numI ev)) ∧ w' = wr.alloc (.cells #[.int .i64 ev] 3)) := by
          refine Calls.mono (nums_any (w := wr.alloc (.cells #[.int .i64 ev] 3)) (g := wr.heap.size) (o := 0) (c := 1) (L := [ev]) (fun k hk => ?_) (by simp)) ?_
          · obtain rfl : k = 0 := by simp at hk; omega
            exact vcell_blk (heap_alloc_new _ _)
          · rintro r w' ⟨rfl, rfl⟩
            exact ⟨by rw [show okNs [ev] = numI ev from (okNs_num [ev]).trans (by simp)], rfl⟩
        go_wp2_with (go_at_call 6; refine HNum.out.mono ?_; rintro r wz ⟨rfl, hz⟩; rw [hz]; clear hz)
        go_roundw
        case rel => exact ⟨j + 1, numI ev, by omega, by go_num, rfl, HF, HB.out.alloc HB.out.size _⟩
        case measure => simp [intOf]; omega
    · have hjI : (n1 : Int) ≤ j := by omega
      have hjj : E1.take j = E1 := by rw [List.take_of_length_le]; omega
      have hbb : bb = (okb && E1.all (fun e => numI e.v)) := by have := HBb.out; rw [hjj] at this; exact this
      have x10' := (HB.out.cell (p := ⟨q, 10, none⟩) (vlt_cell c10)).trans c10
      clear hjj
      subst hbb
      go_wp2
      apply HC'.out _ HB.out
end Go.Proofs.Ytckjjajncgmddaa
