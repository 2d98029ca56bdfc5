import Derived.Test.YtfidojdolbmjdaaSpWmM
import Derived.Test.YtfidojdolbmjdaaOrdLM
import Derived.Test.YtfidojdolbmjdaaGrRefM
import Derived.Maps.OwnIn
/- spec.weave: its range over all edges. -/
namespace Go.Proofs.Ytfidojdolbmjdaa
open Go.RowKit Go.Shelf
attribute [local go_sem] Oper.semAt_some
theorem infoSA : (Try.prog.info? 75).map (fun i => (i.zero, i.size, i.bytes)) = some (some (.agg #[.int .i64 0, .int .i64 0]), 2, 16) := by kernel_rfl
theorem infoSN : (Try.prog.info? 3).map (fun i => (i.zero, i.size, i.bytes)) = some (some (.int .i64 0), 1, 8) := by kernel_rfl
theorem w_one {W : World} {b : Nat} {t : TypeId} {u : Value} (h : W.heap[b]? = some (.cells #[u] t (0, 0))) : ∀ (j : Nat) (v : Value), [u][j]? = some v → W.cell? ((⟨b, 0, none⟩ : Addr).add j) = some v := by
  intro j v hv
  match j, hv with
  | 0, hv => simpa [Addr.add, World.cell?, h] using hv
theorem w_two {W : World} {b : Nat} {t : TypeId} {u y : Value} (h : W.heap[b]? = some (.cells #[u, y] t (0, 0))) : ∀ (j : Nat) (v : Value), [u, y][j]? = some v → W.cell? ((⟨b, 0, none⟩ : Addr).add j) = some v := by
  intro j v hv
  match j, hv with
  | 0, hv => simpa [Addr.add, World.cell?, h] using hv
  | 1, hv => simpa [Addr.add, World.cell?, h] using hv
theorem WV.cut {w W : World} {wb gi ci g1 g2 B n : Nat} {I : List Int} {s : List (List Ed) × List (List Int)} {T : Nat → Prop} (h : WV w W wb gi ci g1 g2 B n I s T) : WV w W wb gi ci g1 g2 B n I s (fun k => T k ∧ k < W.heap.size) := by
  obtain ⟨vs1, m1, r1⟩ := h.om
  obtain ⟨vs2, m2, r2⟩ := h.nm
  exact ⟨h.web, h.idr, ⟨vs1, m1, fun k hk => ⟨r1 k hk, (m1.lt hk).2⟩⟩, ⟨vs2, m2, fun k hk => ⟨r2 k hk, (m2.lt hk).2⟩⟩, h.low, ⟨h.t1, lt_of_block m1.blk⟩, ⟨h.t2, lt_of_block m2.blk⟩, h.lo, h.hi⟩
theorem round_end {w W2 V : World} {wb gi ci g1 g2 B Br n : Nat} {I : List Int} {s : List (List Ed) × List (List Int)} {T T1 : Nat → Prop} {xs : List (Int × Ed)} {a : Act} (hw : WV w V wb gi ci g1 g2 B n I s T1) (hs : foldW I n xs = s) (h1 : ∀ k, T1 k → T k ∨ W2.heap.size ≤ k) (f : Fr W2 V T) :
    postT Br T (fun pre T W => WV w W wb gi ci g1 g2 B n I (foldW I n pre) T ∧ ∀ k, T k → k < W.heap.size) (fun _ _ _ _ => False) xs W2 .normal a V := by
  refine ⟨fun k => T1 k ∧ k < V.heap.size, f, fun k hk => ?_, by rw [hs]; exact hw.cut, fun k hk => hk.2⟩
  rcases h1 k hk.1 with h | h
  · exact .inl h
  · exact .inr ⟨h, hk.2⟩
theorem found_mem {L : List Int} {x : Int} (hr : Rise L) (h : x ∈ L) : foundB L x = true ∧ findN L x < L.length := by
  have h1 : foundB L x = true := by rw [← contains_found x hr]; exact List.contains_iff_mem.2 h
  refine ⟨h1, ?_⟩
  unfold foundB at h1
  by_cases e : findN L x < L.length
  · exact e
  · rw [List.getElem?_eq_none (by omega)] at h1
    simp at h1
theorem ev_ids {G : List Vx} {x : Int × Ed} (h : x ∈ evs G) (ht : thereE G = true) : x.1 ∈ ids G ∧ x.2.t ∈ ids G := by
  unfold evs at h
  obtain ⟨v, hv, h2⟩ := List.mem_flatMap.1 h
  obtain ⟨e, he, rfl⟩ := List.mem_map.1 h2
  refine ⟨List.mem_map.2 ⟨v, hv, rfl⟩, ?_⟩
  have h3 := List.all_eq_true.1 ht v hv
  have h4 := List.all_eq_true.1 h3 e he
  exact List.contains_iff_mem.1 h4
set_option linter.unusedSimpArgs false in
set_option maxRecDepth 100000 in
set_option maxHeartbeats 8000000 in
theorem weave_range {w wr : World} {P : Nat → Prop} {fo : Option Addr} (G : List Vx) (fc wb gi ci g1 g2 B Bs n : Nat) {x0 x1 x2 x3 x5 x6 x7 x8 x9 x10 x11 x12 x13 x14 x15 x16 x17 x18 x19 x20 x21 x22 x23 x25 x26 x27 x28 x29 x30 x31 x32 x33 x34 x35 x36 x37 x38 x39 x40 x41 x42 x43 x44 x45 x46 x47 x48 x49 x50 x51 x52 x53 x54 x55 x56 x57 x58 x59 x60 x61 x62 x63 x64 x65 x66 x67 x68 x69 x70 x71 x72 x73 x74 x75 x76 x77 x78 x79 x80 x81 x82 x83 x84 x85 x86 x87 x88 x89 x90 x91 x92 x93 x94 x95 x96 x97 x98 x99 x100 x101 : Value} {K : Act → World → Prop} {Q' : Exit → Act → World → Prop}
    (HN : Hid (n = G.length)) (HOk : Hid (∀ v ∈ G, v.ok)) (hl : n ≤ 256) (HE : Hid ((evs G).length ≤ 2048)) (HRi : Hid (Rise (ids G))) (HTh : Hid (thereE G = true)) (hX : WV w wr wb gi ci g1 g2 B n (ids G) (foldW (ids G) n []) (fun k => k = g1 ∨ k = g2)) (hBs : wr.cell? ⟨Bs, 0, none⟩ = some (.slice fo n fc)) (hV : VxAt wr P fo G) (hP : ∀ k, k < wr.heap.size → P k → B ≤ k) (hB : B ≤ wr.heap.size)
    (HC : ∀ (wx : World) (D : Nat) (T : Nat → Prop), WV w wx wb gi ci g1 g2 B n (ids G) (foldW (ids G) n (evs G)) T → wr.heap.size ≤ D → ¬ T D → wx.heap[D]? = some (.deferred (some [])) → K ⟨(List.toArray (x0 :: x1 :: x2 :: x3 :: (.pointer (some ⟨wb, 0, none⟩)) :: x5 :: x6 :: x7 :: x8 :: x9 :: x10 :: x11 :: x12 :: x13 :: x14 :: x15 :: x16 :: x17 :: x18 :: x19 :: x20 :: x21 :: x22 :: x23 :: (.func (.func 91) #[] #[.pointer (some ⟨Bs, 0, none⟩)]) :: x25 :: x26 :: x27 :: x28 :: x29 :: x30 :: x31 :: x32 :: x33 :: x34 :: x35 :: x36 :: x37 :: x38 :: x39 :: x40 :: x41 :: x42 :: x43 :: x44 :: x45 :: x46 :: x47 :: x48 :: x49 :: x50 :: x51 :: x52 :: x53 :: x54 :: x55 :: x56 :: x57 :: x58 :: x59 :: x60 :: x61 :: x62 :: x63 :: x64 :: x65 :: x66 :: x67 :: x68 :: x69 :: x70 :: x71 :: x72 :: x73 :: x74 :: x75 :: x76 :: x77 :: x78 :: x79 :: x80 :: x81 :: x82 :: x83 :: x84 :: x85 :: x86 :: x87 :: x88 :: x89 :: x90 :: x91 :: x92 :: x93 :: x94 :: x95 :: x96 :: x97 :: x98 :: x99 :: x100 :: x101 :: [])), [{ target := .collected D, args := #[] }]⟩ wx) :
    Code.wp Try.prog ((Try.f26.body.bind (inBlkW 0)).getD .skip) (Exit.inBlock 0 (Exit.then K Q')) ⟨(List.toArray (x0 :: x1 :: x2 :: x3 :: (.pointer (some ⟨wb, 0, none⟩)) :: x5 :: x6 :: x7 :: x8 :: x9 :: x10 :: x11 :: x12 :: x13 :: x14 :: x15 :: x16 :: x17 :: x18 :: x19 :: x20 :: x21 :: x22 :: x23 :: (.func (.func 91) #[] #[.pointer (some ⟨Bs, 0, none⟩)]) :: x25 :: x26 :: x27 :: x28 :: x29 :: x30 :: x31 :: x32 :: x33 :: x34 :: x35 :: x36 :: x37 :: x38 :: x39 :: x40 :: x41 :: x42 :: x43 :: x44 :: x45 :: x46 :: x47 :: x48 :: x49 :: x50 :: x51 :: x52 :: x53 :: x54 :: x55 :: x56 :: x57 :: x58 :: x59 :: x60 :: x61 :: x62 :: x63 :: x64 :: x65 :: x66 :: x67 :: x68 :: x69 :: x70 :: x71 :: x72 :: x73 :: x74 :: x75 :: x76 :: x77 :: x78 :: x79 :: x80 :: x81 :: x82 :: x83 :: x84 :: x85 :: x86 :: x87 :: x88 :: x89 :: x90 :: x91 :: x92 :: x93 :: x94 :: x95 :: x96 :: x97 :: x98 :: x99 :: x100 :: x101 :: [])), []⟩ wr := by
  obtain ⟨ia, hia, ha0, ha1, ha2⟩ := info_parts infoSA
  obtain ⟨ii, hii, hy0, hy1, hy2⟩ := info_parts infoSN
  conv => arg 2; whnf
  have HH : Hid _ := HC
  have hhi := hX.hi
  have hlo := hX.lo
  have hsz := hX.low.size
  have hBs' : wr.cell? ⟨Bs, 0, none⟩ = some (.slice fo G.length fc) := by rw [← HN.out]; exact hBs
  clear HC hBs
  refine (wpIn_wide (n := 9)).1 ?_
  refine wpIn_rangeT (lb := #[.pointer (some ⟨Bs, 0, none⟩)]) (gf := 91) rfl (enters_of Try.func91 (by kernel_rfl) rfl)
    (edges_T Bs fo fc G (by rw [← HN.out]; omega) HOk.out wr (fun k => B ≤ k ∧ k < wr.heap.size) P (fun k hk => hk.2) hBs' hV (fun k hk hp => ⟨hP k hk hp, hk⟩)) (Below.refl _ _) (fun _ => rfl)
    (fun pre T W => WV w W wb gi ci g1 g2 B n (ids G) (foldW (ids G) n pre) T ∧ ∀ k, T k → k < W.heap.size) (fun _ _ _ _ => False)
    (fun pre T W W' h f => ⟨h.1.kept f (fun k hk e => by omega) (fun k hk e => e.2 hk) (fun k hk => by omega), fun k hk => Nat.lt_of_lt_of_le (h.2 k hk) f.size⟩) (fun c pre T W W' h f => h.elim) (fun k => k = g1 ∨ k = g2) (fun k hk => ⟨by omega, by omega⟩) ⟨hX, fun k hk => by omega⟩ ?round ?done (fun _ _ _ _ _ _ _ h => h.elim)
  case round =>
    rintro m l pre T x W hl0 ⟨r, hr⟩ hTl hI _ hpre
    have hlt := lt_of_block hr
    have hmem : x ∈ evs G := hpre.subset (by simp)
    have HPl : Hid (pre.length < 2048) := by
      have h1 := hpre.length_le
      have h2 := HE.out
      show _ < _
      simp at h1
      omega
    obtain ⟨hx1, hx2⟩ := ev_ids hmem HTh.out
    obtain ⟨hf1, hn1⟩ := found_mem HRi.out hx1
    obtain ⟨hf2, hn2⟩ := found_mem HRi.out hx2
    rw [ids_len, ← HN.out] at hn1 hn2
    have HSt : Hid (foldW (ids G) n (pre ++ [x]) = stepW (ids G) (foldW (ids G) n pre) x) := foldW_snoc _ _ _ _
    have hls := foldW_lens (ids G) n pre
    have hrw := fun j => foldW_rows (ids G) n pre j
    clear hpre hmem hx1 hx2
    dsimp only [encE]
    gi_wp2
    refine ⟨Fr.alloc _ _ _, fun W2 f2 => ?_⟩
    have hs2 : W.heap.size + 1 ≤ W2.heap.size := by have := f2.size; rw [World.size_alloc] at this; exact this
    have e0 := (f2.block W.heap.size (by rw [World.size_alloc]; omega) (by omega)).trans (heap_alloc_new _ _)
    have hI2 : WV w W2 wb gi ci g1 g2 B n (ids G) (foldW (ids G) n pre) T := (hI.1.new (one_new _ _)).kept f2 (fun k hk e => by omega) (fun k hk e => hTl (e ▸ hk)) (fun k hk => by omega)
    have HI2 : Hid _ := hI2
    have HQ0 : Hid (W2.heap[W.heap.size]? = _) := e0
    obtain ⟨S0, hS0e⟩ : ∃ S0, foldW (ids G) n pre = S0 := ⟨_, rfl⟩
    rw [hS0e] at hls HI2 HSt
    simp only [hS0e] at hrw
    have HPc : Hid (∀ W' y a, Below W2.heap.size W2 W' → foundB (ids G) y = true → findN (ids G) y = a → Calls Try.prog 47 #[.agg #[.slice (some ⟨gi, 0, none⟩) n ci, .slice (some ⟨g1, 0, none⟩) n n, .slice (some ⟨g2, 0, none⟩) n n], .int .i64 y] W' fun r w' => r = .returned (.tuple #[.int .i64 (a : Int), .bool true]) ∧ Below W'.heap.size W' w') := fun W' y a hb hf ha => by
      have h1 := ri_new HI2.out.idr hb
      have e : n = (ids G).length := by rw [ids_len]; exact HN.out
      have := place_any (vo := .slice (some ⟨g1, 0, none⟩) n n) (vn := .slice (some ⟨g2, 0, none⟩) n n) (g := gi) (c := ci) (L := ids G) y (by rw [← e]; exact h1) HRi.out (by rw [← e]; exact hl)
      rw [hf, ha, ← e] at this
      exact this
    obtain ⟨a, hae⟩ : ∃ a, findN (ids G) x.1 = a := ⟨_, rfl⟩
    obtain ⟨b, hbe⟩ : ∃ b, findN (ids G) x.2.t = b := ⟨_, rfl⟩
    rw [hae] at hn1
    rw [hbe] at hn2
    have HA : Hid _ := hae
    have HBe : Hid _ := hbe
    have HF1 : Hid _ := hf1
    have HF2 : Hid _ := hf2
    obtain ⟨p0, p1, p2⟩ := box3 HI2.out.web
    obtain ⟨q0, q1⟩ := box2 HQ0.out
    have tk1 : Hid True := trivial
    obtain ⟨q, hq⟩ : ∃ q, W.heap.size = q := ⟨_, rfl⟩
    rw [hq] at q0 q1 hs2 hlt ⊢
    have HQT : Hid (¬ T q) := fun h => by have := hI.2 _ h; omega
    clear hI hI2 e0 hX hV hae hbe hf1 hf2 hS0e HQ0
    gi_wp2_with (refine ⟨trivial, (fun h => by simp [Fence.wide] at h), ?_⟩; gi_at_call 47; first
      | (have _t := tk1; refine (CallsIn.inRound l (callsIn_wide.2 (HPc.out _ _ _ (Below.refl _ _) HF1.out HA.out))).mono ?_; rintro r w3 ⟨rfl, hb3⟩; have HB3 : Hid (Below W2.heap.size W2 w3) := hb3; have p3 := (hb3.cell (p := ⟨wb, 0, none⟩) (lt_cell p0)).trans p0; have p4 := (hb3.cell (p := ⟨wb, 1, none⟩) (lt_cell p1)).trans p1; have p5 := (hb3.cell (p := ⟨wb, 2, none⟩) (lt_cell p2)).trans p2; have q3 := (hb3.cell (p := ⟨q, 0, none⟩) (lt_cell q0)).trans q0; have q4 := (hb3.cell (p := ⟨q, 1, none⟩) (lt_cell q1)).trans q1; clear tk1 hb3)
      | (refine (CallsIn.inRound l (callsIn_wide.2 (HPc.out _ _ _ HB3.out HF2.out HBe.out))).mono ?_; rintro r w4 ⟨rfl, hb4⟩; have HB4 : Hid (Below W2.heap.size W2 w4) := HB3.out.trans (hb4.mono HB3.out.size); have q5 := (hb4.cell (p := ⟨q, 1, none⟩) (lt_cell q4)).trans q4; clear hb4))
    have HI4 : Hid (WV w w4 wb gi ci g1 g2 B n (ids G) (S0) T) := WV.new HI2.out HB4.out
    have HBW : Hid (B ≤ w4.heap.size) := by have := HB4.out.size; have := f2.size; show _ ≤ _; omega
    have HL1 : Hid (S0.1.length = n) := hls.1
    have HL2 : Hid (S0.2.length = n) := hls.2
    have HFew1 : Hid ((S0.1.getD a []).length ≤ 2048) := by have := (hrw a).1; have := HPl.out; show _ ≤ _; omega
    obtain ⟨T90, hT90⟩ : ∃ T90, T = T90 := ⟨_, rfl⟩
    rw [hT90] at HI4 HQT
    clear p0 p1 p2 p3 p4 p5 q0 q1 q3 q4 HPc HB3 HI2
    obtain ⟨vs, hM, hRw⟩ := HI4.out.om
    try dsimp only at hM
    have hlen : a < (S0.1).length := by have := HL1.out; omega
    obtain ⟨u, hu, cu, fu, ou⟩ := hM.at_ hlen
    have cw := (box3 HI4.out.web).2.1
    have hS0 : (fun w' : World => w'.cell? ⟨wb, 1, none⟩ = some (.slice (some ⟨g1, 0, none⟩) n n) ∧ w'.cell? ⟨g1, a, none⟩ = some u ∧ w'.cell? ⟨q, 1, none⟩ = some (.int .i64 x.2.w)) w4.drew := ⟨cw, cu, q5⟩
    have HM : Hid _ := hM
    have HRw : Hid _ := hRw
    have HU : Hid _ := hu
    have HOu : Hid (w4.ownsRow B 75 2 u ((S0.1).getD a []).length (((S0.1).getD a []).flatMap encA2)) := by rw [getD_of hlen]; exact ou
    clear hM hRw hu ou
    refine wpIn_region_L [15] (fun w' : World => w'.cell? ⟨wb, 1, none⟩ = some (.slice (some ⟨g1, 0, none⟩) n n) ∧ w'.cell? ⟨g1, a, none⟩ = some u ∧ w'.cell? ⟨q, 1, none⟩ = some (.int .i64 x.2.w)) (by kernel_rfl) (by kernel_rfl) (fun ⟨_, _, h⟩ => h) ?_
    refine wpAnyL_take (i := 0) 42 (v := .pointer (some ⟨wb, 1, none⟩)) rfl rfl (by kernel_rfl) (by kernel_rfl) (by kernel_rfl) (by kernel_rfl) (by kernel_rfl) (by kernel_rfl) (fun _ _ _ h => h) hS0 (by rfl) (by intro w' hSw; (try dsimp only at hSw); go_simp <;> with_reducible rfl) ?_
    simp only [Act.put, List.setIfInBounds_toArray, List.set_cons_zero, List.set_cons_succ]
    refine wpAnyL_take (i := 1) 43 (v := .slice (some ⟨g1, 0, none⟩) n n) rfl rfl (by kernel_rfl) (by kernel_rfl) (by kernel_rfl) (by kernel_rfl) (by kernel_rfl) (by kernel_rfl) (fun _ _ _ h => h) hS0 (by rfl) (by intro w' hSw; (try dsimp only at hSw); go_simp <;> with_reducible rfl) ?_
    simp only [Act.put, List.setIfInBounds_toArray, List.set_cons_zero, List.set_cons_succ]
    refine wpAnyL_take (i := 2) 44 (v := .int .i64 (a : Int)) rfl rfl (by kernel_rfl) (by kernel_rfl) (by kernel_rfl) (by kernel_rfl) (by kernel_rfl) (by kernel_rfl) (fun _ _ _ h => h) hS0 (by rfl) (by intro w' hSw; (try dsimp only at hSw); go_simp <;> with_reducible rfl) ?_
    simp only [Act.put, List.setIfInBounds_toArray, List.set_cons_zero, List.set_cons_succ]
    refine wpAnyL_take (i := 3) 45 (v := .pointer (some ⟨wb, 1, none⟩)) rfl rfl (by kernel_rfl) (by kernel_rfl) (by kernel_rfl) (by kernel_rfl) (by kernel_rfl) (by kernel_rfl) (fun _ _ _ h => h) hS0 (by rfl) (by intro w' hSw; (try dsimp only at hSw); go_simp <;> with_reducible rfl) ?_
    simp only [Act.put, List.setIfInBounds_toArray, List.set_cons_zero, List.set_cons_succ]
    refine wpAnyL_take (i := 4) 46 (v := .slice (some ⟨g1, 0, none⟩) n n) rfl rfl (by kernel_rfl) (by kernel_rfl) (by kernel_rfl) (by kernel_rfl) (by kernel_rfl) (by kernel_rfl) (fun _ _ _ h => h) hS0 (by rfl) (by intro w' hSw; (try dsimp only at hSw); go_simp <;> with_reducible rfl) ?_
    simp only [Act.put, List.setIfInBounds_toArray, List.set_cons_zero, List.set_cons_succ]
    refine wpAnyL_take (i := 5) 47 (v := .int .i64 (a : Int)) rfl rfl (by kernel_rfl) (by kernel_rfl) (by kernel_rfl) (by kernel_rfl) (by kernel_rfl) (by kernel_rfl) (fun _ _ _ h => h) hS0 (by rfl) (by intro w' hSw; (try dsimp only at hSw); go_simp <;> with_reducible rfl) ?_
    simp only [Act.put, List.setIfInBounds_toArray, List.set_cons_zero, List.set_cons_succ]
    refine wpAnyL_take (i := 6) 48 (v := .pointer (some ⟨g1, a, none⟩)) rfl rfl (by kernel_rfl) (by kernel_rfl) (by kernel_rfl) (by kernel_rfl) (by kernel_rfl) (by kernel_rfl) (fun _ _ _ h => h) hS0 (by rfl) (by intro w' hSw; (try dsimp only at hSw); go_simp <;> with_reducible rfl) ?_
    simp only [Act.put, List.setIfInBounds_toArray, List.set_cons_zero, List.set_cons_succ]
    refine wpAnyL_take (i := 7) 49 (v := u) rfl rfl (by kernel_rfl) (by kernel_rfl) (by kernel_rfl) (by kernel_rfl) (by kernel_rfl) (by kernel_rfl) (fun _ _ _ h => h) hS0 (by rfl) (by intro w' hSw; (try dsimp only at hSw); go_simp <;> with_reducible rfl) ?_
    simp only [Act.put, List.setIfInBounds_toArray, List.set_cons_zero, List.set_cons_succ]
    refine wpAnyL_take (i := 8) 50 (v := .int .i64 (b : Int)) rfl rfl (by kernel_rfl) (by kernel_rfl) (by kernel_rfl) (by kernel_rfl) (by kernel_rfl) (by kernel_rfl) (fun _ _ _ h => h) hS0 (by rfl) (by intro w' hSw; (try dsimp only at hSw); go_simp <;> with_reducible rfl) ?_
    simp only [Act.put, List.setIfInBounds_toArray, List.set_cons_zero, List.set_cons_succ]
    refine wpAnyL_take (i := 9) 51 (v := .pointer (some ⟨q, 1, none⟩)) rfl rfl (by kernel_rfl) (by kernel_rfl) (by kernel_rfl) (by kernel_rfl) (by kernel_rfl) (by kernel_rfl) (fun _ _ _ h => h) hS0 (by rfl) (by intro w' hSw; (try dsimp only at hSw); go_simp <;> with_reducible rfl) ?_
    simp only [Act.put, List.setIfInBounds_toArray, List.set_cons_zero, List.set_cons_succ]
    refine wpAnyL_take (i := 10) 52 (v := .int .i64 x.2.w) rfl rfl (by kernel_rfl) (by kernel_rfl) (by kernel_rfl) (by kernel_rfl) (by kernel_rfl) (by kernel_rfl) (fun _ _ _ h => h) hS0 (by rfl) (by intro w' hSw; (try dsimp only at hSw); go_simp <;> with_reducible rfl) ?_
    simp only [Act.put, List.setIfInBounds_toArray, List.set_cons_zero, List.set_cons_succ]
    refine wpAnyL_take (i := 11) 53 (v := .agg #[.int .i64 (b : Int), .int .i64 x.2.w]) rfl rfl (by kernel_rfl) (by kernel_rfl) (by kernel_rfl) (by kernel_rfl) (by kernel_rfl) (by kernel_rfl) (fun _ _ _ h => h) hS0 (by rfl) (by intro w' hSw; (try dsimp only at hSw); go_simp <;> with_reducible rfl) ?_
    simp only [Act.put, List.setIfInBounds_toArray, List.set_cons_zero, List.set_cons_succ]
    refine wpAnyL_one (i := 12) (by kernel_rfl) rfl (fun Ka hKa => ?_)
    go_simp
    have bel0 : Below w4.heap.size w4 (w4.drew.alloc (.cells #[.int .i64 (b : Int), .int .i64 x.2.w] 75)) := ((Below.refl _ w4).drew).alloc (Nat.le_refl _) _
    have hS1 : (fun w' : World => w'.cell? ⟨wb, 1, none⟩ = some (.slice (some ⟨g1, 0, none⟩) n n) ∧ w'.cell? ⟨g1, a, none⟩ = some u ∧ w'.cell? ⟨q, 1, none⟩ = some (.int .i64 x.2.w)) (w4.drew.alloc (.cells #[.int .i64 (b : Int), .int .i64 x.2.w] 75)) := ⟨(bel0.cell (p := ⟨wb, 1, none⟩) (lt_cell cw)).trans cw, (bel0.cell (p := ⟨g1, a, none⟩) (lt_cell cu)).trans cu, (bel0.cell (p := ⟨q, 1, none⟩) (lt_cell q5)).trans q5⟩
    refine hKa.out _ _ (fun _ => hS1) ?_
    clear hKa Ka
    try simp only [Act.put, List.setIfInBounds_toArray, List.set_cons_zero, List.set_cons_succ]
    refine wpAnyL_one (i := 13) (by kernel_rfl) rfl (fun Kb hKb => ?_)
    refine step_append_own rfl (.tmp 49) (.tmp 54) 73 rfl B 75 ia (.agg #[.int .i64 0, .int .i64 0]) 2 16 Try.underlying73 hia ha0 ha1 ha2 rfl (by decide) u _ _ (by simp [Act.eval]) (so_new HOu.out bel0) ⟨w4.heap.size, 0, none⟩ 1 1 [.int .i64 (b : Int), .int .i64 x.2.w] (by simp [Act.eval]) rfl (w_two (heap_alloc_new w4.drew (.cells #[.int .i64 (b : Int), .int .i64 x.2.w] 75))) (by intro u hu; simp at hu; rcases hu with rfl | rfl <;> rfl) (by have := HFew1.out; unfold maxLen; omega) (by have := HFew1.out; omega) (Nat.le_trans HBW.out bel0.size) ?_
    intro v1 w1 own1 gr1 at1
    obtain ⟨p1, k1, d1, rfl⟩ := own_any own1
    have f1 : Fr (w4.drew.alloc (.cells #[.int .i64 (b : Int), .int .i64 x.2.w] 75)) w1 (fun k => u.ownBlock = some k) := Fr.grown gr1 (fun k hk => hk)
    have fu1 : Fr w4 w1 (fun k => u.ownBlock = some k) := ((Fr.ofBelow bel0 (fun _ => False)).mono (fun _ _ h => h.elim)).trans f1 (fun _ _ h => h)
    have hub : ∀ k, u.ownBlock = some k → B ≤ k := fun k hk => (HM.out.lt ⟨_, u, HU.out, hk⟩).1
    have hat1 : ∀ k, (Value.slice p1 k1 d1).ownBlock = some k → u.ownBlock = some k ∨ w4.heap.size ≤ k := fun k hk => by
      rcases at1 with e | e
      · exact .inl (e ▸ hk)
      · rw [e] at hk; exact .inr (by simp at hk; omega)
    have hn1 : ¬ u.ownBlock = some wb := fun e => by have := hub _ e; have := HI4.out.hi; omega
    have hn2 : ¬ u.ownBlock = some g1 := fun e => by have := hub _ e; have := HI4.out.hi; omega
    have hn3 : ¬ u.ownBlock = some q := fun e => HQT.out (HRw.out _ ⟨_, u, HU.out, e⟩)
    have y1 := fr_cell f1 hn1 hS1.1
    have y2 := fr_cell f1 hn2 hS1.2.1
    have y3 := fr_cell f1 hn3 hS1.2.2
    have y4 : w1.frozen? ⟨g1, a, none⟩ = false := by
      have := (fu1.block g1 (lt_cell cu) hn2).trans HM.out.blk
      simp [World.frozen?, this]
    have hS2 : (fun w' : World => w'.cell? ⟨wb, 1, none⟩ = some (.slice (some ⟨g1, 0, none⟩) n n) ∧ w'.cell? ⟨g1, a, none⟩ = some u ∧ w'.cell? ⟨q, 1, none⟩ = some (.int .i64 x.2.w)) w1 := ⟨y1, y2, y3⟩
    refine hKb.out _ _ (fun _ => hS2) ?_
    clear hKb Kb
    try simp only [Act.put, List.setIfInBounds_toArray, List.set_cons_zero, List.set_cons_succ]
    refine wpAnyL_one (i := 14) (by kernel_rfl) rfl (fun Kc hKc => ?_)
    go_simp
    refine hKc.out _ _ (fun _ => hS2) ?_
    clear hKc Kc
    refine wpAnyL_one (i := 15) (by kernel_rfl) rfl (fun Kd hKd => ?_)
    go_simp
    refine hKd.out _ _ (fun h => absurd h (Bool.eq_false_iff.1 (by kernel_rfl))) ?_
    clear hKd Kd
    refine wpAnyL_done (by kernel_rfl) ?_ _
    have HW9 : Hid _ := WV.addO (z := ⟨(b : Int), x.2.w⟩) HI4.out HM.out HRw.out HU.out fu1 (by rw [List.length_append, List.flatMap_append]; simpa [encA2] using own1) hat1
    have fW9 : Fr w4 (w1.setCell ⟨g1, a, none⟩ (.slice p1 k1 d1)) (fun k => T90 k) := (fu1.mono (fun k _ hk => HRw.out _ ⟨_, u, HU.out, hk⟩)).trans (Fr.setCell (S := fun k => T90 k) w1 ⟨g1, a, none⟩ (.slice p1 k1 d1) HI4.out.t1) (fun _ _ h => h)
    have HF9 : Hid _ := fW9
    have sz9 : w4.heap.size ≤ (w1.setCell ⟨g1, a, none⟩ (.slice p1 k1 d1)).heap.size := fW9.size
    clear own1 gr1 at1 f1 fu1 hat1 hub hn1 hn2 y1 y2 y4 hS0 hS1 hS2 bel0 cw cu fu HOu HM HRw HU y3 hn3 fW9
    generalize hG9 : World.setCell w1 _ _ = V9 at HW9 HF9 sz9 ⊢
    clear hG9
    have HFX : Hid (Fr W2 V9 T90) := ((Fr.ofBelow HB4.out (fun _ => False)).mono (fun _ _ h => h.elim)).trans HF9.out (fun _ _ h => h)
    rename_i Qz Kz hKz
    refine hKz _ _ ?_
    clear hKz
    by_cases hab : a = b
    · subst hab
      gi_wp2
      refine round_end HW9.out (by rw [HSt.out]; simp [stepW, HA.out, HBe.out]) (fun k hk => ?_) ?_
      · rcases hk with h | h
        · exact .inl (by first | exact h | (rw [hT90]; exact h))
        · exact .inr (Nat.le_trans HB4.out.size h)
      · first | exact HFX.out | (rw [hT90]; exact HFX.out)
    · have hab1 : ¬ ((a : Int) = (b : Int)) := by omega
      gi_wp2
      obtain ⟨S1, hS1⟩ : ∃ S1, addW S0.1 a ⟨(b : Int), x.2.w⟩ = S1 := ⟨_, rfl⟩
      rw [hS1] at HW9
      obtain ⟨TA0, hTA⟩ : ∃ TA0, (fun k => T90 k ∨ w4.heap.size ≤ k) = TA0 := ⟨_, rfl⟩
      rw [hTA] at HW9
      have HFew2 : Hid ((S0.2.getD a []).length ≤ 8192) := by have := (hrw a).2; have := HPl.out; show _ ≤ _; omega
      have HBW : Hid (B ≤ V9.heap.size) := Nat.le_trans HBW.out sz9
      obtain ⟨vs, hM, hRw⟩ := HW9.out.nm
      try dsimp only at hM
      have hlen : a < (S0.2).length := by have := HL2.out; omega
      obtain ⟨u, hu, cu, fu, ou⟩ := hM.at_ hlen
      have cw := (box3 HW9.out.web).2.2
      have hS0 : (fun w' : World => w'.cell? ⟨wb, 2, none⟩ = some (.slice (some ⟨g2, 0, none⟩) n n) ∧ w'.cell? ⟨g2, a, none⟩ = some u) V9.drew := ⟨cw, cu⟩
      have HM : Hid _ := hM
      have HRw : Hid _ := hRw
      have HU : Hid _ := hu
      have HOu : Hid (V9.ownsRow B 3 1 u ((S0.2).getD a []).length (((S0.2).getD a []).flatMap encI1)) := by rw [getD_of hlen]; exact ou
      clear hM hRw hu ou
      refine wpIn_region_L [12] (fun w' : World => w'.cell? ⟨wb, 2, none⟩ = some (.slice (some ⟨g2, 0, none⟩) n n) ∧ w'.cell? ⟨g2, a, none⟩ = some u) (by kernel_rfl) (by kernel_rfl) (fun ⟨_, _, h⟩ => h) ?_
      refine wpAnyL_take (i := 0) 60 (v := .pointer (some ⟨wb, 2, none⟩)) rfl rfl (by kernel_rfl) (by kernel_rfl) (by kernel_rfl) (by kernel_rfl) (by kernel_rfl) (by kernel_rfl) (fun _ _ _ h => h) hS0 (by rfl) (by intro w' hSw; (try dsimp only at hSw); go_simp <;> with_reducible rfl) ?_
      simp only [Act.put, List.setIfInBounds_toArray, List.set_cons_zero, List.set_cons_succ]
      refine wpAnyL_take (i := 1) 61 (v := .slice (some ⟨g2, 0, none⟩) n n) rfl rfl (by kernel_rfl) (by kernel_rfl) (by kernel_rfl) (by kernel_rfl) (by kernel_rfl) (by kernel_rfl) (fun _ _ _ h => h) hS0 (by rfl) (by intro w' hSw; (try dsimp only at hSw); go_simp <;> with_reducible rfl) ?_
      simp only [Act.put, List.setIfInBounds_toArray, List.set_cons_zero, List.set_cons_succ]
      refine wpAnyL_take (i := 2) 62 (v := .int .i64 (a : Int)) rfl rfl (by kernel_rfl) (by kernel_rfl) (by kernel_rfl) (by kernel_rfl) (by kernel_rfl) (by kernel_rfl) (fun _ _ _ h => h) hS0 (by rfl) (by intro w' hSw; (try dsimp only at hSw); go_simp <;> with_reducible rfl) ?_
      simp only [Act.put, List.setIfInBounds_toArray, List.set_cons_zero, List.set_cons_succ]
      refine wpAnyL_take (i := 3) 63 (v := .pointer (some ⟨wb, 2, none⟩)) rfl rfl (by kernel_rfl) (by kernel_rfl) (by kernel_rfl) (by kernel_rfl) (by kernel_rfl) (by kernel_rfl) (fun _ _ _ h => h) hS0 (by rfl) (by intro w' hSw; (try dsimp only at hSw); go_simp <;> with_reducible rfl) ?_
      simp only [Act.put, List.setIfInBounds_toArray, List.set_cons_zero, List.set_cons_succ]
      refine wpAnyL_take (i := 4) 64 (v := .slice (some ⟨g2, 0, none⟩) n n) rfl rfl (by kernel_rfl) (by kernel_rfl) (by kernel_rfl) (by kernel_rfl) (by kernel_rfl) (by kernel_rfl) (fun _ _ _ h => h) hS0 (by rfl) (by intro w' hSw; (try dsimp only at hSw); go_simp <;> with_reducible rfl) ?_
      simp only [Act.put, List.setIfInBounds_toArray, List.set_cons_zero, List.set_cons_succ]
      refine wpAnyL_take (i := 5) 65 (v := .int .i64 (a : Int)) rfl rfl (by kernel_rfl) (by kernel_rfl) (by kernel_rfl) (by kernel_rfl) (by kernel_rfl) (by kernel_rfl) (fun _ _ _ h => h) hS0 (by rfl) (by intro w' hSw; (try dsimp only at hSw); go_simp <;> with_reducible rfl) ?_
      simp only [Act.put, List.setIfInBounds_toArray, List.set_cons_zero, List.set_cons_succ]
      refine wpAnyL_take (i := 6) 66 (v := .pointer (some ⟨g2, a, none⟩)) rfl rfl (by kernel_rfl) (by kernel_rfl) (by kernel_rfl) (by kernel_rfl) (by kernel_rfl) (by kernel_rfl) (fun _ _ _ h => h) hS0 (by rfl) (by intro w' hSw; (try dsimp only at hSw); go_simp <;> with_reducible rfl) ?_
      simp only [Act.put, List.setIfInBounds_toArray, List.set_cons_zero, List.set_cons_succ]
      refine wpAnyL_take (i := 7) 67 (v := u) rfl rfl (by kernel_rfl) (by kernel_rfl) (by kernel_rfl) (by kernel_rfl) (by kernel_rfl) (by kernel_rfl) (fun _ _ _ h => h) hS0 (by rfl) (by intro w' hSw; (try dsimp only at hSw); go_simp <;> with_reducible rfl) ?_
      simp only [Act.put, List.setIfInBounds_toArray, List.set_cons_zero, List.set_cons_succ]
      refine wpAnyL_take (i := 8) 68 (v := .int .i64 (b : Int)) rfl rfl (by kernel_rfl) (by kernel_rfl) (by kernel_rfl) (by kernel_rfl) (by kernel_rfl) (by kernel_rfl) (fun _ _ _ h => h) hS0 (by rfl) (by intro w' hSw; (try dsimp only at hSw); go_simp <;> with_reducible rfl) ?_
      simp only [Act.put, List.setIfInBounds_toArray, List.set_cons_zero, List.set_cons_succ]
      refine wpAnyL_one (i := 9) (by kernel_rfl) rfl (fun Ka hKa => ?_)
      go_simp
      have bel0 : Below V9.heap.size V9 (V9.drew.alloc (.cells #[.int .i64 (b : Int)] 3)) := ((Below.refl _ V9).drew).alloc (Nat.le_refl _) _
      have hS1 : (fun w' : World => w'.cell? ⟨wb, 2, none⟩ = some (.slice (some ⟨g2, 0, none⟩) n n) ∧ w'.cell? ⟨g2, a, none⟩ = some u) (V9.drew.alloc (.cells #[.int .i64 (b : Int)] 3)) := ⟨(bel0.cell (p := ⟨wb, 2, none⟩) (lt_cell cw)).trans cw, (bel0.cell (p := ⟨g2, a, none⟩) (lt_cell cu)).trans cu⟩
      refine hKa.out _ _ (fun _ => hS1) ?_
      clear hKa Ka
      try simp only [Act.put, List.setIfInBounds_toArray, List.set_cons_zero, List.set_cons_succ]
      refine wpAnyL_one (i := 10) (by kernel_rfl) rfl (fun Kb hKb => ?_)
      refine step_append_own rfl (.tmp 67) (.tmp 69) 116 rfl B 3 ii (.int .i64 0) 1 8 Try.underlying116 hii hy0 hy1 hy2 rfl (by decide) u _ _ (by simp [Act.eval]) (so_new HOu.out bel0) ⟨V9.heap.size, 0, none⟩ 1 1 [.int .i64 (b : Int)] (by simp [Act.eval]) rfl (w_one (heap_alloc_new V9.drew (.cells #[.int .i64 (b : Int)] 3))) (by intro u hu; simp at hu; subst hu; rfl) (by have := HFew2.out; unfold maxLen; omega) (by have := HFew2.out; omega) (Nat.le_trans HBW.out bel0.size) ?_
      intro v1 w1 own1 gr1 at1
      obtain ⟨p1, k1, d1, rfl⟩ := own_any own1
      have f1 : Fr (V9.drew.alloc (.cells #[.int .i64 (b : Int)] 3)) w1 (fun k => u.ownBlock = some k) := Fr.grown gr1 (fun k hk => hk)
      have fu1 : Fr V9 w1 (fun k => u.ownBlock = some k) := ((Fr.ofBelow bel0 (fun _ => False)).mono (fun _ _ h => h.elim)).trans f1 (fun _ _ h => h)
      have hub : ∀ k, u.ownBlock = some k → B ≤ k := fun k hk => (HM.out.lt ⟨_, u, HU.out, hk⟩).1
      have hat1 : ∀ k, (Value.slice p1 k1 d1).ownBlock = some k → u.ownBlock = some k ∨ V9.heap.size ≤ k := fun k hk => by
        rcases at1 with e | e
        · exact .inl (e ▸ hk)
        · rw [e] at hk; exact .inr (by simp at hk; omega)
      have hn1 : ¬ u.ownBlock = some wb := fun e => by have := hub _ e; have := HW9.out.hi; omega
      have hn2 : ¬ u.ownBlock = some g2 := fun e => by have := hub _ e; have := HW9.out.hi; omega
      have y1 := fr_cell f1 hn1 hS1.1
      have y2 := fr_cell f1 hn2 hS1.2
      have y4 : w1.frozen? ⟨g2, a, none⟩ = false := by
        have := (fu1.block g2 (lt_cell cu) hn2).trans HM.out.blk
        simp [World.frozen?, this]
      have hS2 : (fun w' : World => w'.cell? ⟨wb, 2, none⟩ = some (.slice (some ⟨g2, 0, none⟩) n n) ∧ w'.cell? ⟨g2, a, none⟩ = some u) w1 := ⟨y1, y2⟩
      refine hKb.out _ _ (fun _ => hS2) ?_
      clear hKb Kb
      try simp only [Act.put, List.setIfInBounds_toArray, List.set_cons_zero, List.set_cons_succ]
      refine wpAnyL_one (i := 11) (by kernel_rfl) rfl (fun Kc hKc => ?_)
      go_simp
      refine hKc.out _ _ (fun _ => hS2) ?_
      clear hKc Kc
      refine wpAnyL_one (i := 12) (by kernel_rfl) rfl (fun Kd hKd => ?_)
      go_simp
      refine hKd.out _ _ (fun h => absurd h (Bool.eq_false_iff.1 (by kernel_rfl))) ?_
      clear hKd Kd
      refine wpAnyL_done (by kernel_rfl) ?_ _
      have HWA : Hid _ := WV.addN (z := (b : Int)) HW9.out HM.out HRw.out HU.out fu1 (by rw [List.length_append, List.flatMap_append]; simpa [encI1] using own1) hat1
      have fWA : Fr V9 (w1.setCell ⟨g2, a, none⟩ (.slice p1 k1 d1)) (fun k => TA0 k) := (fu1.mono (fun k _ hk => HRw.out _ ⟨_, u, HU.out, hk⟩)).trans (Fr.setCell (S := fun k => TA0 k) w1 ⟨g2, a, none⟩ (.slice p1 k1 d1) HW9.out.t2) (fun _ _ h => h)
      have HFA : Hid _ := fWA
      have szA : V9.heap.size ≤ (w1.setCell ⟨g2, a, none⟩ (.slice p1 k1 d1)).heap.size := fWA.size
      clear own1 gr1 at1 f1 fu1 hat1 hub hn1 hn2 y1 y2 y4 hS0 hS1 hS2 bel0 cw cu fu HOu HM HRw HU fWA
      generalize hGA : World.setCell w1 _ _ = VA at HWA HFA szA ⊢
      clear hGA
      rename_i Ky hKy
      refine hKy _ _ ?_
      clear hKy
      obtain ⟨N1, hN1⟩ : ∃ N1, addW S0.2 a (b : Int) = N1 := ⟨_, rfl⟩
      have HFew2 : Hid ((N1.getD b []).length ≤ 8193) := by have := (hrw b).2; have := HPl.out; have := addW_row S0.2 a b (b : Int); rw [hN1] at this; show _ ≤ _; omega
      have HL2 : Hid (N1.length = n) := by rw [← hN1]; exact (addW_len _ _ _).trans HL2.out
      rw [hN1] at HWA
      obtain ⟨TB0, hTB⟩ : ∃ TB0, (fun k => TA0 k ∨ V9.heap.size ≤ k) = TB0 := ⟨_, rfl⟩
      rw [hTB] at HWA
      have HBW : Hid (B ≤ VA.heap.size) := Nat.le_trans HBW.out szA
      obtain ⟨vs, hM, hRw⟩ := HWA.out.nm
      try dsimp only at hM
      have hlen : b < (N1).length := by have := HL2.out; omega
      obtain ⟨u, hu, cu, fu, ou⟩ := hM.at_ hlen
      have cw := (box3 HWA.out.web).2.2
      have hS0 : (fun w' : World => w'.cell? ⟨wb, 2, none⟩ = some (.slice (some ⟨g2, 0, none⟩) n n) ∧ w'.cell? ⟨g2, b, none⟩ = some u) VA.drew := ⟨cw, cu⟩
      have HM : Hid _ := hM
      have HRw : Hid _ := hRw
      have HU : Hid _ := hu
      have HOu : Hid (VA.ownsRow B 3 1 u ((N1).getD b []).length (((N1).getD b []).flatMap encI1)) := by rw [getD_of hlen]; exact ou
      clear hM hRw hu ou
      refine wpIn_region_L [12] (fun w' : World => w'.cell? ⟨wb, 2, none⟩ = some (.slice (some ⟨g2, 0, none⟩) n n) ∧ w'.cell? ⟨g2, b, none⟩ = some u) (by kernel_rfl) (by kernel_rfl) (fun ⟨_, _, h⟩ => h) ?_
      refine wpAnyL_take (i := 0) 72 (v := .pointer (some ⟨wb, 2, none⟩)) rfl rfl (by kernel_rfl) (by kernel_rfl) (by kernel_rfl) (by kernel_rfl) (by kernel_rfl) (by kernel_rfl) (fun _ _ _ h => h) hS0 (by rfl) (by intro w' hSw; (try dsimp only at hSw); go_simp <;> with_reducible rfl) ?_
      simp only [Act.put, List.setIfInBounds_toArray, List.set_cons_zero, List.set_cons_succ]
      refine wpAnyL_take (i := 1) 73 (v := .slice (some ⟨g2, 0, none⟩) n n) rfl rfl (by kernel_rfl) (by kernel_rfl) (by kernel_rfl) (by kernel_rfl) (by kernel_rfl) (by kernel_rfl) (fun _ _ _ h => h) hS0 (by rfl) (by intro w' hSw; (try dsimp only at hSw); go_simp <;> with_reducible rfl) ?_
      simp only [Act.put, List.setIfInBounds_toArray, List.set_cons_zero, List.set_cons_succ]
      refine wpAnyL_take (i := 2) 74 (v := .int .i64 (b : Int)) rfl rfl (by kernel_rfl) (by kernel_rfl) (by kernel_rfl) (by kernel_rfl) (by kernel_rfl) (by kernel_rfl) (fun _ _ _ h => h) hS0 (by rfl) (by intro w' hSw; (try dsimp only at hSw); go_simp <;> with_reducible rfl) ?_
      simp only [Act.put, List.setIfInBounds_toArray, List.set_cons_zero, List.set_cons_succ]
      refine wpAnyL_take (i := 3) 75 (v := .pointer (some ⟨wb, 2, none⟩)) rfl rfl (by kernel_rfl) (by kernel_rfl) (by kernel_rfl) (by kernel_rfl) (by kernel_rfl) (by kernel_rfl) (fun _ _ _ h => h) hS0 (by rfl) (by intro w' hSw; (try dsimp only at hSw); go_simp <;> with_reducible rfl) ?_
      simp only [Act.put, List.setIfInBounds_toArray, List.set_cons_zero, List.set_cons_succ]
      refine wpAnyL_take (i := 4) 76 (v := .slice (some ⟨g2, 0, none⟩) n n) rfl rfl (by kernel_rfl) (by kernel_rfl) (by kernel_rfl) (by kernel_rfl) (by kernel_rfl) (by kernel_rfl) (fun _ _ _ h => h) hS0 (by rfl) (by intro w' hSw; (try dsimp only at hSw); go_simp <;> with_reducible rfl) ?_
      simp only [Act.put, List.setIfInBounds_toArray, List.set_cons_zero, List.set_cons_succ]
      refine wpAnyL_take (i := 5) 77 (v := .int .i64 (b : Int)) rfl rfl (by kernel_rfl) (by kernel_rfl) (by kernel_rfl) (by kernel_rfl) (by kernel_rfl) (by kernel_rfl) (fun _ _ _ h => h) hS0 (by rfl) (by intro w' hSw; (try dsimp only at hSw); go_simp <;> with_reducible rfl) ?_
      simp only [Act.put, List.setIfInBounds_toArray, List.set_cons_zero, List.set_cons_succ]
      refine wpAnyL_take (i := 6) 78 (v := .pointer (some ⟨g2, b, none⟩)) rfl rfl (by kernel_rfl) (by kernel_rfl) (by kernel_rfl) (by kernel_rfl) (by kernel_rfl) (by kernel_rfl) (fun _ _ _ h => h) hS0 (by rfl) (by intro w' hSw; (try dsimp only at hSw); go_simp <;> with_reducible rfl) ?_
      simp only [Act.put, List.setIfInBounds_toArray, List.set_cons_zero, List.set_cons_succ]
      refine wpAnyL_take (i := 7) 79 (v := u) rfl rfl (by kernel_rfl) (by kernel_rfl) (by kernel_rfl) (by kernel_rfl) (by kernel_rfl) (by kernel_rfl) (fun _ _ _ h => h) hS0 (by rfl) (by intro w' hSw; (try dsimp only at hSw); go_simp <;> with_reducible rfl) ?_
      simp only [Act.put, List.setIfInBounds_toArray, List.set_cons_zero, List.set_cons_succ]
      refine wpAnyL_take (i := 8) 80 (v := .int .i64 (a : Int)) rfl rfl (by kernel_rfl) (by kernel_rfl) (by kernel_rfl) (by kernel_rfl) (by kernel_rfl) (by kernel_rfl) (fun _ _ _ h => h) hS0 (by rfl) (by intro w' hSw; (try dsimp only at hSw); go_simp <;> with_reducible rfl) ?_
      simp only [Act.put, List.setIfInBounds_toArray, List.set_cons_zero, List.set_cons_succ]
      refine wpAnyL_one (i := 9) (by kernel_rfl) rfl (fun Ka hKa => ?_)
      go_simp
      have bel0 : Below VA.heap.size VA (VA.drew.alloc (.cells #[.int .i64 (a : Int)] 3)) := ((Below.refl _ VA).drew).alloc (Nat.le_refl _) _
      have hS1 : (fun w' : World => w'.cell? ⟨wb, 2, none⟩ = some (.slice (some ⟨g2, 0, none⟩) n n) ∧ w'.cell? ⟨g2, b, none⟩ = some u) (VA.drew.alloc (.cells #[.int .i64 (a : Int)] 3)) := ⟨(bel0.cell (p := ⟨wb, 2, none⟩) (lt_cell cw)).trans cw, (bel0.cell (p := ⟨g2, b, none⟩) (lt_cell cu)).trans cu⟩
      refine hKa.out _ _ (fun _ => hS1) ?_
      clear hKa Ka
      try simp only [Act.put, List.setIfInBounds_toArray, List.set_cons_zero, List.set_cons_succ]
      refine wpAnyL_one (i := 10) (by kernel_rfl) rfl (fun Kb hKb => ?_)
      refine step_append_own rfl (.tmp 79) (.tmp 81) 116 rfl B 3 ii (.int .i64 0) 1 8 Try.underlying116 hii hy0 hy1 hy2 rfl (by decide) u _ _ (by simp [Act.eval]) (so_new HOu.out bel0) ⟨VA.heap.size, 0, none⟩ 1 1 [.int .i64 (a : Int)] (by simp [Act.eval]) rfl (w_one (heap_alloc_new VA.drew (.cells #[.int .i64 (a : Int)] 3))) (by intro u hu; simp at hu; subst hu; rfl) (by have := HFew2.out; unfold maxLen; omega) (by have := HFew2.out; omega) (Nat.le_trans HBW.out bel0.size) ?_
      intro v1 w1 own1 gr1 at1
      obtain ⟨p1, k1, d1, rfl⟩ := own_any own1
      have f1 : Fr (VA.drew.alloc (.cells #[.int .i64 (a : Int)] 3)) w1 (fun k => u.ownBlock = some k) := Fr.grown gr1 (fun k hk => hk)
      have fu1 : Fr VA w1 (fun k => u.ownBlock = some k) := ((Fr.ofBelow bel0 (fun _ => False)).mono (fun _ _ h => h.elim)).trans f1 (fun _ _ h => h)
      have hub : ∀ k, u.ownBlock = some k → B ≤ k := fun k hk => (HM.out.lt ⟨_, u, HU.out, hk⟩).1
      have hat1 : ∀ k, (Value.slice p1 k1 d1).ownBlock = some k → u.ownBlock = some k ∨ VA.heap.size ≤ k := fun k hk => by
        rcases at1 with e | e
        · exact .inl (e ▸ hk)
        · rw [e] at hk; exact .inr (by simp at hk; omega)
      have hn1 : ¬ u.ownBlock = some wb := fun e => by have := hub _ e; have := HWA.out.hi; omega
      have hn2 : ¬ u.ownBlock = some g2 := fun e => by have := hub _ e; have := HWA.out.hi; omega
      have y1 := fr_cell f1 hn1 hS1.1
      have y2 := fr_cell f1 hn2 hS1.2
      have y4 : w1.frozen? ⟨g2, b, none⟩ = false := by
        have := (fu1.block g2 (lt_cell cu) hn2).trans HM.out.blk
        simp [World.frozen?, this]
      have hS2 : (fun w' : World => w'.cell? ⟨wb, 2, none⟩ = some (.slice (some ⟨g2, 0, none⟩) n n) ∧ w'.cell? ⟨g2, b, none⟩ = some u) w1 := ⟨y1, y2⟩
      refine hKb.out _ _ (fun _ => hS2) ?_
      clear hKb Kb
      try simp only [Act.put, List.setIfInBounds_toArray, List.set_cons_zero, List.set_cons_succ]
      refine wpAnyL_one (i := 11) (by kernel_rfl) rfl (fun Kc hKc => ?_)
      go_simp
      refine hKc.out _ _ (fun _ => hS2) ?_
      clear hKc Kc
      refine wpAnyL_one (i := 12) (by kernel_rfl) rfl (fun Kd hKd => ?_)
      go_simp
      refine hKd.out _ _ (fun h => absurd h (Bool.eq_false_iff.1 (by kernel_rfl))) ?_
      clear hKd Kd
      refine wpAnyL_done (by kernel_rfl) ?_ _
      have HWB : Hid _ := WV.addN (z := (a : Int)) HWA.out HM.out HRw.out HU.out fu1 (by rw [List.length_append, List.flatMap_append]; simpa [encI1] using own1) hat1
      have fWB : Fr VA (w1.setCell ⟨g2, b, none⟩ (.slice p1 k1 d1)) (fun k => TB0 k) := (fu1.mono (fun k _ hk => HRw.out _ ⟨_, u, HU.out, hk⟩)).trans (Fr.setCell (S := fun k => TB0 k) w1 ⟨g2, b, none⟩ (.slice p1 k1 d1) HWA.out.t2) (fun _ _ h => h)
      have HFB : Hid _ := fWB
      have szB : VA.heap.size ≤ (w1.setCell ⟨g2, b, none⟩ (.slice p1 k1 d1)).heap.size := fWB.size
      clear own1 gr1 at1 f1 fu1 hat1 hub hn1 hn2 y1 y2 y4 hS0 hS1 hS2 bel0 cw cu fu HOu HM HRw HU fWB
      generalize hGB : World.setCell w1 _ _ = VB at HWB HFB szB ⊢
      clear hGB
      have HFY : Hid (Fr W2 VB T90) := (HFX.out.trans HFA.out (fun k hk h => by rw [← hTA] at h; have := HB4.out.size; rcases h with h | h; exact h; omega)).trans HFB.out (fun k hk h => by
        rw [← hTB] at h
        have := HB4.out.size
        rcases h with h | h
        · rw [← hTA] at h
          rcases h with h | h
          · exact h
          · omega
        · omega)
      gi_wp2
      refine round_end HWB.out (by rw [HSt.out]; simp [stepW, HA.out, HBe.out, hS1, hN1, hab]) (fun k hk => ?_) ?_
      · have := HB4.out.size
        rcases hk with h | h
        · rw [← hTB] at h
          rcases h with h | h
          · rw [← hTA] at h
            rcases h with h | h
            · exact .inl (by first | exact h | (rw [hT90]; exact h))
            · exact .inr (by omega)
          · exact .inr (by omega)
        · exact .inr (by omega)
      · first | exact HFY.out | (rw [hT90]; exact HFY.out)
  case done =>
    rintro D xs T W hD rfl hI hTD hK
    exact HH.out W D T hI.1 hD hTD hK
end Go.Proofs.Ytfidojdolbmjdaa
