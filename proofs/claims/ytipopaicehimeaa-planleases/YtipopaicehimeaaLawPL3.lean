/- PlanLeases: its last loop. -/
import Derived.Test.YtipopaicehimeaaPlAc
import Derived.Test.YtipopaicehimeaaLawPNil
namespace Go.Proofs.Ytipopaicehimeaa
open Go.RowKit Go.Maps
attribute [local go_sem] Oper.semAt_some
/-- What lies in a block of a function's code. -/
def inBlkP (n : Nat) : Code → Option Code
  | .block m c => if m = n then some c else inBlkP n c
  | .loop c => inBlkP n c
  | .seq a b => match inBlkP n a with
    | some c => some c
    | none => inBlkP n b
  | .scope c => inBlkP n c
  | .cond _ a b => match inBlkP n a with
    | some c => some c
    | none => inBlkP n b
  | _ => none
theorem gbox4 {W : World} {q : Nat} {t : TypeId} {x0 x1 x2 x3 : Value} (h : W.heap[q]? = some (.cells #[x0, x1, x2, x3] t (0, 0))) : W.cell? ⟨q, 0, none⟩ = some x0 ∧ W.cell? ⟨q, 1, none⟩ = some x1 ∧ W.cell? ⟨q, 2, none⟩ = some x2 ∧ W.cell? ⟨q, 3, none⟩ = some x3 := by
  refine ⟨?_, ?_, ?_, ?_⟩ <;> simp [World.cell?, h]
theorem LA.apartI {w : World} {B C p : Nat} {long : Int} {mb : Option Nat} {M : List Lz} {v : Value} {L : List Int} (h : LA w B p long mb M) (r : IO_ w C v L) : ∀ k, v.ownBlock = some k → ¬ (k = p ∨ mb = some k) := by
  intro k hk e
  obtain ⟨_, cs, f, hb⟩ := GO.tag r hk
  rcases e with rfl | rfl
  · rw [h.box] at hb
    simp at hb
  · obtain ⟨_, _, hM⟩ := h.mp
    obtain ⟨es, cl, hm⟩ := hM.isMap
    rw [hm] at hb
    cases hb
theorem LA.pastI {w w' : World} {B C p : Nat} {long : Int} {mb : Option Nat} {M : List Lz} {v : Value} {L : List Int} (h : LA w B p long mb M) (r : IO_ w C v L) (f : Fr w w' (fun k => v.ownBlock = some k)) : LA w' B p long mb M := h.kept f (fun e => h.apartI r p e (.inl rfl)) (fun b hb e => h.apartI r b e (.inr hb))
theorem LO.pastI {w w' : World} {B C : Nat} {M : List Lz} {u v : Value} {L : List Int} (h : LO w B u M) (r : IO_ w C v L) (f : Fr w w' (fun k => v.ownBlock = some k)) : LO w' B u M := GO.kept h f (fun k hk e => by
  obtain ⟨_, cs, f1, h1⟩ := GO.tag h hk
  obtain ⟨_, cs', f2, h2⟩ := GO.tag r e
  rw [h1] at h2
  simp at h2)
def ApI (u v : Value) : Prop := ∀ k, u.ownBlock = some k → v.ownBlock ≠ some k
theorem ApI.symm {u v : Value} (h : ApI u v) : ApI v u := fun k h1 h2 => h k h2 h1
theorem ApI.row {w : World} {C : Nat} {u u' v : Value} {L : List Int} (h : ApI u v) (r : Row w u u') (hv : IO_ w C v L) : ApI u' v := by
  intro k hk e
  rcases r with r | ⟨g, r, hg⟩
  · exact h k (r ▸ hk) e
  · have := (GO.lt hv k e).2
    rw [r] at hk
    cases hk
    omega
theorem goneL_snoc (M : List Lz) (long now : Int) (y : Lz) : goneL (M ++ [y]) long now = goneL M long now ++ (if overB long y.t now then [y.k] else []) := by
  unfold goneL
  rw [List.filter_append, List.map_append]
  congr 1
  by_cases h : overB long y.t now = true <;> simp [h]
theorem goneL_len (M : List Lz) (long now : Int) : (goneL M long now).length ≤ M.length := by
  unfold goneL
  rw [List.length_map]
  exact List.length_filter_le _ _
set_option linter.unusedSimpArgs false in
set_option linter.unusedVariables false in
set_option maxRecDepth 100000 in
set_option maxHeartbeats 16000000 in
theorem pl_loop3 {w W : World} {p c : Nat} {long now : Int} {M : List Lz} {mb : Option Nat} {ao : Option Addr} {l0 g0 : Value} {x1 x3 x4 x5 x6 x8 x10 x11 x12 x13 x14 x15 x19 x20 x21 x22 x23 x24 x25 x26 x27 x28 x29 x30 x31 x32 x33 x34 x35 x36 x37 x38 x39 x40 x41 x42 x43 x44 x45 x46 x47 x48 x49 x50 x51 x52 x53 x54 x55 x56 x57 x58 x59 x60 x61 x62 x63 x64 x65 x66 x67 x68 x69 x70 x71 x72 x73 x74 x75 x76 x77 x78 x79 x80 x81 x82 x83 x84 x85 x86 x87 x88 x89 x90 x91 x92 x93 x94 x95 x96 x97 x98 x99 x100 x101 x102 x103 x104 x105 x106 x107 x108 x109 x110 x111 x112 x113 x114 x115 x116 x117 x118 x119 x120 x121 x122 x123 x124 x125 x126 x127 x128 x129 x130 x131 x132 x133 x134 x135 x136 x137 x138 x139 x140 x141 x142 x143 x144 x145 x146 x147 x148 x149 x150 x151 x152 x153 x154 x155 x156 x157 x158 x159 x160 x161 x162 x163 x164 x165 x166 x167 x168 x169 x170 x171 x172 x173 x174 x175 x176 x177 x178 x179 x180 x181 x182 x183 x184 x185 x186 x187 x188 x189 x190 x191 x192 x193 x194 x195 x196 x197 x198 x199 x200 x201 x202 x203 x204 x205 x206 x207 x208 x209 x210 x211 x212 x213 x214 x215 x216 x217 x218 x219 x220 x221 x222 x223 x224 x225 x226 x227 x228 x229 x230 x231 x232 x233 x234 x235 x236 x237 x238 x239 x240 x241 x242 x243 : Value} {K : Act → World → Prop} {Q' : Exit → Act → World → Prop}
    (hl1 : 1 ≤ long) (hl2 : long ≤ 1048576) (hnow : I6 now) (hok : ∀ y ∈ M, y.ok) (hMl : M.length ≤ 60)
    (h1 : IO_ W w.heap.size l0 []) (h2 : IO_ W w.heap.size g0 []) (h3 : ApI l0 g0) (h4 : LA W w.heap.size p long mb M) (h5 : LO W w.heap.size (.slice ao M.length c) M) (h6 : Below w.heap.size w W)
    (HC : ∀ (wr : World) y6 y16 y17 y18 y19 y20 y167 y168 y169 y170 y171 y172 y173 y174 y175 y176 y177 y178 y179 y180 y181 y182 y183 y184 y185 y186 y187 y188 y189 y190 y191 y192 y193 y194 y195 y196 y197 y198 y199 y200 y201 y202 y203 y204 y205 y206 y207 y208 y209 y210 y211 y212 y213 y214 y215 y216 y217 y218 y219 y220 y221 y222 y223 y224 y225 y226 y227 y228 y229 y230, IO_ wr w.heap.size y16 (M.map (·.k)) → IO_ wr w.heap.size y17 (goneL M long now) → LA wr w.heap.size p long mb M → Below w.heap.size w wr → K ⟨(List.toArray ((.int .i64 long) :: x1 :: (.int .i64 now) :: x3 :: x4 :: x5 :: y6 :: (.pointer (some ⟨p, 0, none⟩)) :: x8 :: (.slice ao M.length c) :: x10 :: x11 :: x12 :: x13 :: x14 :: x15 :: y16 :: y17 :: y18 :: y19 :: y20 :: x21 :: x22 :: x23 :: x24 :: x25 :: x26 :: x27 :: x28 :: x29 :: x30 :: x31 :: x32 :: x33 :: x34 :: x35 :: x36 :: x37 :: x38 :: x39 :: x40 :: x41 :: x42 :: x43 :: x44 :: x45 :: x46 :: x47 :: x48 :: x49 :: x50 :: x51 :: x52 :: x53 :: x54 :: x55 :: x56 :: x57 :: x58 :: x59 :: x60 :: x61 :: x62 :: x63 :: x64 :: x65 :: x66 :: x67 :: x68 :: x69 :: x70 :: x71 :: x72 :: x73 :: x74 :: x75 :: x76 :: x77 :: x78 :: x79 :: x80 :: x81 :: x82 :: x83 :: x84 :: x85 :: x86 :: x87 :: x88 :: x89 :: x90 :: x91 :: x92 :: x93 :: x94 :: x95 :: x96 :: x97 :: x98 :: x99 :: x100 :: x101 :: x102 :: x103 :: x104 :: x105 :: x106 :: x107 :: x108 :: x109 :: x110 :: x111 :: x112 :: x113 :: x114 :: x115 :: x116 :: x117 :: x118 :: x119 :: x120 :: x121 :: x122 :: x123 :: x124 :: x125 :: x126 :: x127 :: x128 :: x129 :: x130 :: x131 :: x132 :: x133 :: x134 :: x135 :: x136 :: x137 :: x138 :: x139 :: x140 :: x141 :: x142 :: x143 :: x144 :: x145 :: x146 :: x147 :: x148 :: x149 :: x150 :: x151 :: x152 :: x153 :: x154 :: x155 :: x156 :: x157 :: x158 :: x159 :: x160 :: x161 :: x162 :: x163 :: x164 :: x165 :: x166 :: y167 :: y168 :: y169 :: y170 :: y171 :: y172 :: y173 :: y174 :: y175 :: y176 :: y177 :: y178 :: y179 :: y180 :: y181 :: y182 :: y183 :: y184 :: y185 :: y186 :: y187 :: y188 :: y189 :: y190 :: y191 :: y192 :: y193 :: y194 :: y195 :: y196 :: y197 :: y198 :: y199 :: y200 :: y201 :: y202 :: y203 :: y204 :: y205 :: y206 :: y207 :: y208 :: y209 :: y210 :: y211 :: y212 :: y213 :: y214 :: y215 :: y216 :: y217 :: y218 :: y219 :: y220 :: y221 :: y222 :: y223 :: y224 :: y225 :: y226 :: y227 :: y228 :: y229 :: y230 :: x231 :: x232 :: x233 :: x234 :: x235 :: x236 :: x237 :: x238 :: x239 :: x240 :: x241 :: x242 :: x243 :: [])), []⟩ wr) :
    Code.wp Try.prog ((Try.f4.body.bind (inBlkP 5)).getD .skip) (Exit.inBlock 5 (Exit.then K Q')) ⟨(List.toArray ((.int .i64 long) :: x1 :: (.int .i64 now) :: x3 :: x4 :: x5 :: x6 :: (.pointer (some ⟨p, 0, none⟩)) :: x8 :: (.slice ao M.length c) :: x10 :: x11 :: x12 :: x13 :: x14 :: x15 :: l0 :: g0 :: (.int .i64 0) :: x19 :: x20 :: x21 :: x22 :: x23 :: x24 :: x25 :: x26 :: x27 :: x28 :: x29 :: x30 :: x31 :: x32 :: x33 :: x34 :: x35 :: x36 :: x37 :: x38 :: x39 :: x40 :: x41 :: x42 :: x43 :: x44 :: x45 :: x46 :: x47 :: x48 :: x49 :: x50 :: x51 :: x52 :: x53 :: x54 :: x55 :: x56 :: x57 :: x58 :: x59 :: x60 :: x61 :: x62 :: x63 :: x64 :: x65 :: x66 :: x67 :: x68 :: x69 :: x70 :: x71 :: x72 :: x73 :: x74 :: x75 :: x76 :: x77 :: x78 :: x79 :: x80 :: x81 :: x82 :: x83 :: x84 :: x85 :: x86 :: x87 :: x88 :: x89 :: x90 :: x91 :: x92 :: x93 :: x94 :: x95 :: x96 :: x97 :: x98 :: x99 :: x100 :: x101 :: x102 :: x103 :: x104 :: x105 :: x106 :: x107 :: x108 :: x109 :: x110 :: x111 :: x112 :: x113 :: x114 :: x115 :: x116 :: x117 :: x118 :: x119 :: x120 :: x121 :: x122 :: x123 :: x124 :: x125 :: x126 :: x127 :: x128 :: x129 :: x130 :: x131 :: x132 :: x133 :: x134 :: x135 :: x136 :: x137 :: x138 :: x139 :: x140 :: x141 :: x142 :: x143 :: x144 :: x145 :: x146 :: x147 :: x148 :: x149 :: x150 :: x151 :: x152 :: x153 :: x154 :: x155 :: x156 :: x157 :: x158 :: x159 :: x160 :: x161 :: x162 :: x163 :: x164 :: x165 :: x166 :: x167 :: x168 :: x169 :: x170 :: x171 :: x172 :: x173 :: x174 :: x175 :: x176 :: x177 :: x178 :: x179 :: x180 :: x181 :: x182 :: x183 :: x184 :: x185 :: x186 :: x187 :: x188 :: x189 :: x190 :: x191 :: x192 :: x193 :: x194 :: x195 :: x196 :: x197 :: x198 :: x199 :: x200 :: x201 :: x202 :: x203 :: x204 :: x205 :: x206 :: x207 :: x208 :: x209 :: x210 :: x211 :: x212 :: x213 :: x214 :: x215 :: x216 :: x217 :: x218 :: x219 :: x220 :: x221 :: x222 :: x223 :: x224 :: x225 :: x226 :: x227 :: x228 :: x229 :: x230 :: x231 :: x232 :: x233 :: x234 :: x235 :: x236 :: x237 :: x238 :: x239 :: x240 :: x241 :: x242 :: x243 :: [])), []⟩ W := by
  have HH : Hid _ := HC
  have HLo : Hid (1 ≤ long ∧ long ≤ 1048576) := ⟨hl1, hl2⟩
  have HNow : Hid (I6 now) := hnow
  have HOk : Hid (∀ y ∈ M, y.ok) := hok
  have HL2 : Hid (IO_ W w.heap.size l0 []) := h1
  have HG2 : Hid (IO_ W w.heap.size g0 []) := h2
  have HAp : Hid (ApI l0 g0) := h3
  have HA2 : Hid (LA W w.heap.size p long mb M) := h4
  have HM2 : Hid (LO W w.heap.size (.slice ao M.length c) M) := h5
  have HB2 : Hid (Below w.heap.size w W) := h6
  clear HC hnow hok h1 h2 h3 h4 h5 h6
  conv => arg 2; whnf
  go_loopw [16, 17, 18] (fun lvv gvv kv wr => ∃ n : Nat, n ≤ M.length ∧ kv = .int .i64 n ∧ Hid (IO_ wr w.heap.size lvv ((M.take n).map (·.k))) ∧ Hid (IO_ wr w.heap.size gvv (goneL (M.take n) long now)) ∧ Hid (ApI lvv gvv) ∧ Hid (LA wr w.heap.size p long mb M) ∧ Hid (LO wr w.heap.size (.slice ao M.length c) M) ∧ Hid (Below w.heap.size w wr)) (fun _ _ kv _ => M.length - (intOf kv).toNat)
  case atStart => exact ⟨0, Nat.zero_le _, rfl, HL2, HG2, HAp, HA2, HM2, HB2⟩
  case round =>
    clear HL2 HG2 HAp HA2 HM2 HB2
    obtain ⟨n, hn, rfl, HL, HG, HAp, HA, HM, HB⟩ := hrel
    by_cases hnl : n < M.length
    · have HNl : Hid (n < M.length) := hnl
      obtain ⟨ao', c', hsh, _, hg⟩ := GO.shape HM.out
      cases hsh
      obtain ⟨g, rfl⟩ := hg (by omega)
      obtain ⟨m0, m1, m2⟩ := LO.at_ HM.out n hnl
      have HTk : Hid (M.take (n + 1) = M.take n ++ [M[n]]) := List.take_succ_eq_append_getElem hnl
      have hgi := get_i HA.out.nod hnl
      have HGi : Hid (getL M M[n].k = some M[n]) := hgi
      have HYo : Hid (M[n].ok) := HOk.out _ (List.getElem_mem hnl)
      have HCe : Hid (∀ W : World, LO W w.heap.size (.slice (some ⟨g, 0, none⟩) M.length c) M → W.cell? ⟨g, n * 3, none⟩ = some (.int .i64 M[n].k) ∧ W.cell? ⟨g, n * 3 + 1, none⟩ = some (.int .i64 M[n].l) ∧ W.cell? ⟨g, n * 3 + 2, none⟩ = some (.int .i64 M[n].t)) := fun W h => LO.at_ h n hnl
      generalize M[n] = y at m0 m1 m2 HTk HGi HYo HCe
      obtain ⟨lo2, lc2, hls, _, _⟩ := GO.shape HL.out
      obtain ⟨go2, gc2, hgs, _, _⟩ := GO.shape HG.out
      subst hls
      subst hgs
      have hlen1 : ((M.take n).map (·.k)).length ≤ 60 := by simp; omega
      have hlen2 : (goneL (M.take n) long now).length ≤ 60 := by have := goneL_len (M.take n) long now; rw [List.length_take] at this; omega
      have HK1 : Hid ((M.take (n + 1)).map (·.k) = (M.take n).map (·.k) ++ [y.k]) := by show _ = _; rw [HTk.out]; simp
      have HK2 : Hid (goneL (M.take (n + 1)) long now = goneL (M.take n) long now ++ (if overB long y.t now then [y.k] else [])) := by show _ = _; rw [HTk.out, goneL_snoc]
      generalize (M.take n).map (·.k) = L1 at HL hlen1 HK1 HAp ⊢
      generalize goneL (M.take n) long now = G1 at HG hlen2 HK2 HAp ⊢
      clear hg hgi
      go_upto_region 35 with (at_builtin; refine wpl_appG gT_int rfl rfl rfl rfl (R := L1) (S := [y.k]) (GO.new HL.out (gone_new _ _)) (GS.one (heap_alloc_new _ _) rfl 1 (Nat.le_refl _)) (by simp; omega) (by have := HB.out.size; simp; omega) ?_; intro v6 w6 ho6 hf6 hr6)
      have f6 : Fr wr w6 (fun k => (Value.slice lo2 L1.length lc2).ownBlock = some k) := (Fr.ofBelow (gone_new _ _) _).trans hf6 (fun _ _ h => h)
      have HA6 : Hid (LA w6 w.heap.size p long mb M) := LA.pastI HA.out HL.out f6
      have HM6 : Hid (LO w6 w.heap.size (.slice (some ⟨g, 0, none⟩) M.length c) M) := LO.pastI HM.out HL.out f6
      have HB6 : Hid (Below w.heap.size w w6) := HB.out.trans (f6.below HB.out.size (fun k hk => (GO.lt HL.out k hk).1))
      have HL6 : Hid (IO_ w6 w.heap.size v6 (L1 ++ [y.k])) := ho6
      have HG6 : Hid (IO_ w6 w.heap.size (.slice go2 G1.length gc2) G1) := GO.kept HG.out f6 (fun k h1 h2 => HAp.out k h2 h1)
      have HAp6 : Hid (ApI v6 (.slice go2 G1.length gc2)) := by
        refine ApI.row (w := wr.alloc (.cells #[.int .i64 y.k] 3)) HAp.out hr6 (C := w.heap.size) (L := G1) (GO.new HG.out (gone_new _ _))
      clear ho6 hf6 hr6 f6 HA HM HB HL HG HAp m0 m1 m2
      obtain ⟨m0, m1, m2⟩ := HCe.out w6 HM6.out
      have hLf := llife HA6.out (x := y.k) HYo.out.1
      rw [HGi.out] at hLf
      simp only [Option.isSome_some, lzD, Option.getD_some] at hLf
      have e2 : IntKind.u64.wrap long = long := u64_self (by omega) (by omega)
      by_cases hov : overB long y.t now = true
      · have hle : y.t ≤ now ∧ long ≤ now - y.t := by unfold overB at hov; simpa using hov
        have hltt : y.t < now := by have := HLo.out.1; omega
        have e1 := u64_sub HNow.out HYo.out.2.2 hle.1
        have HK3 : Hid (goneL (M.take (n + 1)) long now = G1 ++ [y.k]) := by show _ = _; rw [HK2.out, if_pos hov]
        have hd := hle.2
        generalize now - y.t = dd at e1 hd
        clear hov hle
        go_upto_region 37 with (at_builtin; refine wpl_appG gT_int rfl rfl rfl rfl (R := G1) (S := [y.k]) (GO.new HG6.out (gone_new _ _)) (GS.one (heap_alloc_new _ _) rfl 1 (Nat.le_refl _)) (by simp; omega) (by have := HB6.out.size; simp; omega) ?_; intro v7 w7 ho7 hf7 hr7)
        have f7 : Fr w6 w7 (fun k => (Value.slice go2 G1.length gc2).ownBlock = some k) := (Fr.ofBelow (gone_new _ _) _).trans hf7 (fun _ _ h => h)
        have HA7 : Hid (LA w7 w.heap.size p long mb M) := LA.pastI HA6.out HG6.out f7
        have HM7 : Hid (LO w7 w.heap.size (.slice (some ⟨g, 0, none⟩) M.length c) M) := LO.pastI HM6.out HG6.out f7
        have HB7 : Hid (Below w.heap.size w w7) := HB6.out.trans (f7.below HB6.out.size (fun k hk => (GO.lt HG6.out k hk).1))
        have HG7 : Hid (IO_ w7 w.heap.size v7 (goneL (M.take (n + 1)) long now)) := by show IO_ _ _ _ _; rw [HK3.out]; exact ho7
        have HL7 : Hid (IO_ w7 w.heap.size v6 ((M.take (n + 1)).map (·.k))) := by show IO_ _ _ _ _; rw [HK1.out]; exact GO.kept HL6.out f7 (fun k h1 h2 => HAp6.out k h1 h2)
        have HAp7 : Hid (ApI v6 v7) := ApI.symm (ApI.row (w := w6.alloc (.cells #[.int .i64 y.k] 3)) (ApI.symm HAp6.out) hr7 (C := w.heap.size) (L := L1 ++ [y.k]) (GO.new HL6.out (gone_new _ _)))
        clear ho7 hf7 hr7 f7 HA6 HM6 HB6 HL6 HG6 HAp6 m0 m1 m2 hLf
        obtain ⟨m0, m1, m2⟩ := HCe.out w7 HM7.out
        have hLf := llife HA7.out (x := y.k) HYo.out.1
        rw [HGi.out] at hLf
        simp only [Option.isSome_some, lzD, Option.getD_some] at hLf
        go_upto_region 38 with (go_at_call 15; refine hLf.mono ?_; rintro r w8 ⟨rfl, hb8⟩)
        have HA8 : Hid (LA w8 w.heap.size p long mb M) := HA7.out.new hb8
        have HM8 : Hid (LO w8 w.heap.size (.slice (some ⟨g, 0, none⟩) M.length c) M) := GO.new HM7.out hb8
        have HB8 : Hid (Below w.heap.size w w8) := HB7.out.trans (hb8.mono HB7.out.size)
        have HG8 : Hid (IO_ w8 w.heap.size v7 (goneL (M.take (n + 1)) long now)) := GO.new HG7.out hb8
        have HL8 : Hid (IO_ w8 w.heap.size v6 ((M.take (n + 1)).map (·.k))) := GO.new HL7.out hb8
        clear HA7 HM7 HB7 HG7 HL7 m0 m1 m2 hLf hb8
        obtain ⟨m0, m1, m2⟩ := HCe.out w8 HM8.out
        go_wp2
        go_roundw
        case rel => exact ⟨n + 1, HNl.out, by go_num, HL8, HG8, HAp7, HA8, HM8, HB8⟩
        case measure => have := HNl.out; simp [intOf]; omega
      · have HK3 : Hid (goneL (M.take (n + 1)) long now = G1) := by show _ = _; rw [HK2.out, if_neg hov, List.append_nil]
        have HL7 : Hid (IO_ w6 w.heap.size v6 ((M.take (n + 1)).map (·.k))) := by show IO_ _ _ _ _; rw [HK1.out]; exact HL6.out
        have HG7 : Hid (IO_ w6 w.heap.size (.slice go2 G1.length gc2) (goneL (M.take (n + 1)) long now)) := by show IO_ _ _ _ _; rw [HK3.out]; exact HG6.out
        have hov2 : y.t ≤ now → now - y.t < long := fun h => by
          unfold overB at hov
          simp [h] at hov
          omega
        clear hov HL6 HG6
        by_cases hltt : y.t < now
        · have e1 := u64_sub HNow.out HYo.out.2.2 (show y.t ≤ now by omega)
          have hd := hov2 (by omega)
          generalize now - y.t = dd at e1 hd
          clear hov2
          go_upto_region 38 with (go_at_call 15; refine hLf.mono ?_; rintro r w8 ⟨rfl, hb8⟩)
          have HA8 : Hid (LA w8 w.heap.size p long mb M) := HA6.out.new hb8
          have HM8 : Hid (LO w8 w.heap.size (.slice (some ⟨g, 0, none⟩) M.length c) M) := GO.new HM6.out hb8
          have HB8 : Hid (Below w.heap.size w w8) := HB6.out.trans (hb8.mono HB6.out.size)
          have HG8 : Hid (IO_ w8 w.heap.size (.slice go2 G1.length gc2) (goneL (M.take (n + 1)) long now)) := GO.new HG7.out hb8
          have HL8 : Hid (IO_ w8 w.heap.size v6 ((M.take (n + 1)).map (·.k))) := GO.new HL7.out hb8
          clear HA6 HM6 HB6 HG7 HL7 m0 m1 m2 hLf hb8
          obtain ⟨m0, m1, m2⟩ := HCe.out w8 HM8.out
          go_wp2
          go_roundw
          case rel => exact ⟨n + 1, HNl.out, by go_num, HL8, HG8, HAp6, HA8, HM8, HB8⟩
          case measure => have := HNl.out; simp [intOf]; omega
        · have hle : now ≤ y.t := by omega
          clear hov2
          go_upto_region 38 with (go_at_call 15; refine hLf.mono ?_; rintro r w8 ⟨rfl, hb8⟩)
          have HA8 : Hid (LA w8 w.heap.size p long mb M) := HA6.out.new hb8
          have HM8 : Hid (LO w8 w.heap.size (.slice (some ⟨g, 0, none⟩) M.length c) M) := GO.new HM6.out hb8
          have HB8 : Hid (Below w.heap.size w w8) := HB6.out.trans (hb8.mono HB6.out.size)
          have HG8 : Hid (IO_ w8 w.heap.size (.slice go2 G1.length gc2) (goneL (M.take (n + 1)) long now)) := GO.new HG7.out hb8
          have HL8 : Hid (IO_ w8 w.heap.size v6 ((M.take (n + 1)).map (·.k))) := GO.new HL7.out hb8
          clear HA6 HM6 HB6 HG7 HL7 m0 m1 m2 hLf hb8
          obtain ⟨m0, m1, m2⟩ := HCe.out w8 HM8.out
          go_wp2
          go_roundw
          case rel => exact ⟨n + 1, HNl.out, by go_num, HL8, HG8, HAp6, HA8, HM8, HB8⟩
          case measure => have := HNl.out; simp [intOf]; omega
    · obtain rfl : n = M.length := by omega
      have eT : M.take M.length = M := List.take_length
      rw [eT] at HL HG
      clear hnl eT
      go_wp2
      exact HH.out _ _ _ _ _ _ _ _ _ _ _ _ _ _ _ _ _ _ _ _ _ _ _ _ _ _ _ _ _ _ _ _ _ _ _ _ _ _ _ _ _ _ _ _ _ _ _ _ _ _ _ _ _ _ _ _ _ _ _ _ _ _ _ _ _ _ _ _ _ _ _ HL.out HG.out HA.out HB.out
end Go.Proofs.Ytipopaicehimeaa
