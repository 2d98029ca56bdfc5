/- Region 3 of Source: the vertex is looked for. -/
import Derived.Test.YtnijacbfcffnpaaRegV
import Derived.Test.YtnijacbfcffnpaaGrFind2
import Derived.Test.YtnijacbfcffnpaaKcSmall
import Derived.Deep.Cut
import Derived.Deep.DeepCutAuto
namespace Go.Proofs.Ytnijacbfcffnpaa
open Go.RowKit
theorem kc_new {w w' : World} {P : Nat → Prop} {ao : Option Addr} {G : List Vx} (h : VxAt w P ao G) (hb : Below w.heap.size w w') : VxAt w' P ao G := h.kept (Fr.ofBelow hb (fun _ => False)) (fun _ _ hp => ⟨fun h => h, hp⟩)
theorem kc_lt {w : World} {P : Nat → Prop} {ao : Option Addr} {G : List Vx} (h : VxAt w P ao G) : VxAt w (fun k => k < w.heap.size) ao G := h.kept (Fr.refl _ (fun _ => False)) (fun _ hk _ => ⟨fun h => h, hk⟩)
set_option maxRecDepth 100000 in
set_option maxHeartbeats 1000000 in
theorem source_r3 {W0 : World} {A : Act} {bx b off n cap pc : Nat} {ao : Option Addr} {P : Nat → Prop} {G : List Vx} {x : Int} {fb : Bool} {K : Act → World → Prop} {Q' : Exit → Act → World → Prop} (hsz : A.tmps.size = 20) (hA2 : A.eval (.tmp 2) = .pointer (some ⟨bx, 0, none⟩)) (hA1 : A.eval (.tmp 1) = .slice (some ⟨b, off, none⟩) 1 pc) (hB : W0.cell? ⟨bx, 0, none⟩ = some (.slice ao n cap)) (hc : W0.cell? ⟨b, off, none⟩ = some (.int .i64 x)) (hn : n = G.length) (hG : VxAt W0 P ao G) (hl : G.length ≤ 256) (hr : Rise (ids G)) (hfb : foundB (ids G) x = fb)
    (HK : ∀ X W, Below W0.heap.size W0 W → X 6 = .bool fb → K (puts A X [11, 12, 13, 14, 15, 10, 16, 17, 5, 6]) W) :
    Code.wp Try.prog ((Try.f57.body.bind (regionJ 3)).getD .skip) (Exit.then K Q') A W0 := by
  obtain ⟨ds, hds⟩ : ∃ ds, [11, 12, 13, 14, 15, 10, 16, 17, 5, 6] = ds := ⟨_, rfl⟩
  have hin : ∀ {X : Nat → Value} {k : Nat}, k ∈ [11, 12, 13, 14, 15, 10, 16, 17, 5, 6] → (puts A X ds).eval (.tmp k) = X k := fun hk => by rw [← hds]; exact eval_in hk (by rw [hsz]; revert hk; simp only [List.mem_cons, List.not_mem_nil, or_false]; omega)
  have hout : ∀ {X : Nat → Value} {k : Nat}, k ∉ [11, 12, 13, 14, 15, 10, 16, 17, 5, 6] → (puts A X ds).eval (.tmp k) = A.eval (.tmp k) := fun hk => by rw [← hds]; exact eval_out hk
  have g0 : ds.getD 0 0 = 11 := by rw [← hds]; rfl
  have g1 : ds.getD 1 0 = 12 := by rw [← hds]; rfl
  have g2 : ds.getD 2 0 = 13 := by rw [← hds]; rfl
  have g3 : ds.getD 3 0 = 14 := by rw [← hds]; rfl
  have g4 : ds.getD 4 0 = 15 := by rw [← hds]; rfl
  have g5 : ds.getD 5 0 = 10 := by rw [← hds]; rfl
  have g6 : ds.getD 6 0 = 16 := by rw [← hds]; rfl
  have g7 : ds.getD 7 0 = 17 := by rw [← hds]; rfl
  have g8 : ds.getD 8 0 = 5 := by rw [← hds]; rfl
  have g9 : ds.getD 9 0 = 6 := by rw [← hds]; rfl
  obtain ⟨V, hV, e0, e1, e2, e3, e4, e5, e6, e7, e8, e9⟩ : ∃ V : Nat → Value → World → Prop, (∀ i v W W', V i v W → Below W.heap.size W W' → V i v W') ∧ (∀ v W, V 0 v W = (v = .agg #[.slice ao n cap])) ∧ (∀ v W, V 1 v W = (v = .slice (some ⟨b, off, none⟩) 1 pc)) ∧ (∀ v W, V 2 v W = (v = .pointer (some ⟨b, off, none⟩))) ∧ (∀ v W, V 3 v W = (v = .int .i64 x)) ∧ (∀ v W, V 4 v W = (v = .tuple #[.int .i64 (findN (ids G) x), .bool fb])) ∧ (∀ v W, V 5 v W = (v = .tuple #[.int .i64 (findN (ids G) x), .bool fb])) ∧ (∀ v W, V 6 v W = (v = .int .i64 (findN (ids G) x))) ∧ (∀ v W, V 7 v W = (v = .bool fb)) ∧ (∀ v W, V 8 v W = (v = .int .i64 (findN (ids G) x))) ∧ (∀ v W, V 9 v W = (v = .bool fb)) := by
    refine ⟨fun i v W => match i with
      | 0 => v = .agg #[.slice ao n cap]
      | 1 => v = .slice (some ⟨b, off, none⟩) 1 pc
      | 2 => v = .pointer (some ⟨b, off, none⟩)
      | 3 => v = .int .i64 x
      | 4 => v = .tuple #[.int .i64 (findN (ids G) x), .bool fb]
      | 5 => v = .tuple #[.int .i64 (findN (ids G) x), .bool fb]
      | 6 => v = .int .i64 (findN (ids G) x)
      | 7 => v = .bool fb
      | 8 => v = .int .i64 (findN (ids G) x)
      | 9 => v = .bool fb
      | _ => True, ?_, fun _ _ => rfl, fun _ _ => rfl, fun _ _ => rfl, fun _ _ => rfl, fun _ _ => rfl, fun _ _ => rfl, fun _ _ => rfl, fun _ _ => rfl, fun _ _ => rfl, fun _ _ => rfl⟩
    intro i v W W' h hb
    match i, h with
    | 0, h => exact h
    | 1, h => exact h
    | 2, h => exact h
    | 3, h => exact h
    | 4, h => exact h
    | 5, h => exact h
    | 6, h => exact h
    | 7, h => exact h
    | 8, h => exact h
    | 9, h => exact h
    | _ + 10, _ => trivial
  conv => arg 2; whnf
  refine wp_region_V ds V (by kernel_rfl) (by kernel_rfl) (by rw [← hds]; kernel_rfl) hV ?_ ?_
  · refine ⟨?_, ?_, ?_, ?_, ?_, ?_, ?_, ?_, ?_, ?_, trivial⟩
    all_goals intro X W hb hd
    · have h0 := hout (X := X) (k := 2) (by decide)
      rw [hA2] at h0
      have c0 := (hb.cell (p := ⟨bx, 0, none⟩) (lt_cell hB)).trans hB
      refine v_value (V := V 0) (v := .agg #[.slice ao n cap]) ?_ (by rw [e0])
      generalize (puts A X ds).eval = ρ at h0 ⊢
      go_simp
    · have h0 := hout (X := X) (k := 1) (by decide)
      rw [hA1] at h0
      refine v_value (V := V 1) (v := .slice (some ⟨b, off, none⟩) 1 pc) ?_ (by rw [e1])
      generalize (puts A X ds).eval = ρ at h0 ⊢
      go_simp
    · have d0 := hd 1 (by kernel_rfl)
      rw [e1, g1] at d0
      have h0 := (hin (X := X) (k := 12) (by decide)).trans d0
      have h1 : (puts A X ds).eval (.const (.int .i64 0)) = .int .i64 0 := rfl
      refine v_value (V := V 2) (v := .pointer (some ⟨b, off, none⟩)) ?_ (by rw [e2])
      generalize (puts A X ds).eval = ρ at h0 h1 ⊢
      go_simp
    · have d0 := hd 2 (by kernel_rfl)
      rw [e2, g2] at d0
      have h0 := (hin (X := X) (k := 13) (by decide)).trans d0
      have c0 := (hb.cell (p := ⟨b, off, none⟩) (lt_cell hc)).trans hc
      refine v_value (V := V 3) (v := .int .i64 x) ?_ (by rw [e3])
      generalize (puts A X ds).eval = ρ at h0 ⊢
      go_simp
    · have d0 := hd 0 (by kernel_rfl)
      rw [e0, g0] at d0
      have h0 := (hin (X := X) (k := 11) (by decide)).trans d0
      have d1 := hd 3 (by kernel_rfl)
      rw [e3, g3] at d1
      have h1 := (hin (X := X) (k := 14) (by decide)).trans d1
      have hf : (puts A X ds).eval (.func 92) = .func (.func 92) #[] #[] := rfl
      refine v_call (V := V 4) (f := 92) (vs := #[.agg #[.slice ao n cap], .int .i64 x]) ?_ ?_
      · generalize (puts A X ds).eval = ρ at h0 h1 hf ⊢
        go_simp
      · subst hn
        refine (find_any cap x (kc_lt (kc_new hG hb)) hl hr).mono ?_
        rintro r W' ⟨rfl, hb'⟩
        exact ⟨_, rfl, by rw [e4, hfb], hb'⟩
    · have d0 := hd 4 (by kernel_rfl)
      rw [e4, g4] at d0
      have h0 := (hin (X := X) (k := 15) (by decide)).trans d0
      refine v_value (V := V 5) (v := .tuple #[.int .i64 (findN (ids G) x), .bool fb]) ?_ (by rw [e5])
      generalize (puts A X ds).eval = ρ at h0 ⊢
      go_simp
    · have d0 := hd 5 (by kernel_rfl)
      rw [e5, g5] at d0
      have h0 := (hin (X := X) (k := 10) (by decide)).trans d0
      refine v_value (V := V 6) (v := .int .i64 (findN (ids G) x)) ?_ (by rw [e6])
      generalize (puts A X ds).eval = ρ at h0 ⊢
      go_simp
    · have d0 := hd 5 (by kernel_rfl)
      rw [e5, g5] at d0
      have h0 := (hin (X := X) (k := 10) (by decide)).trans d0
      refine v_value (V := V 7) (v := .bool fb) ?_ (by rw [e7])
      generalize (puts A X ds).eval = ρ at h0 ⊢
      go_simp
    · have d0 := hd 6 (by kernel_rfl)
      rw [e6, g6] at d0
      have h0 := (hin (X := X) (k := 16) (by decide)).trans d0
      refine v_value (V := V 8) (v := .int .i64 (findN (ids G) x)) ?_ (by rw [e8])
      generalize (puts A X ds).eval = ρ at h0 ⊢
      go_simp
    · have d0 := hd 7 (by kernel_rfl)
      rw [e7, g7] at d0
      have h0 := (hin (X := X) (k := 17) (by decide)).trans d0
      refine v_value (V := V 9) (v := .bool fb) ?_ (by rw [e9])
      generalize (puts A X ds).eval = ρ at h0 ⊢
      go_simp
  · intro X W hb hall
    have r0 := hall 0 (by decide)
    rw [e0, g0] at r0
    have r1 := hall 1 (by decide)
    rw [e1, g1] at r1
    have r2 := hall 2 (by decide)
    rw [e2, g2] at r2
    have r3 := hall 3 (by decide)
    rw [e3, g3] at r3
    have r4 := hall 4 (by decide)
    rw [e4, g4] at r4
    have r5 := hall 5 (by decide)
    rw [e5, g5] at r5
    have r6 := hall 6 (by decide)
    rw [e6, g6] at r6
    have r7 := hall 7 (by decide)
    rw [e7, g7] at r7
    have r8 := hall 8 (by decide)
    rw [e8, g8] at r8
    have r9 := hall 9 (by decide)
    rw [e9, g9] at r9
    have := HK X W hb (by first | assumption | exact ⟨by assumption, by assumption⟩ | exact ⟨by assumption, by assumption, by assumption⟩ | simp_all)
    rw [hds] at this
    exact this
/-- Is the only parameter a vertex? -/
def srcN (G : List Vx) (L : List Int) : Int := if L.length = 1 ∧ foundB (ids G) (L.getD 0 0) = true then 0 else 71
set_option maxRecDepth 100000 in
set_option maxHeartbeats 1000000 in
theorem source_any {w : World} {P : Nat → Prop} {ao po : Option Addr} (G : List Vx) (L : List Int) (n cap pn pc : Nat) (hn : n = G.length) (hp : pn = L.length) (hG : VxAt w P ao G) (hL : IsAt w po L) (hl : G.length ≤ 256) (hr : Rise (ids G)) :
    Calls Try.prog 57 #[.agg #[.slice ao n cap], .slice po pn pc] w fun r w' => r = .returned (.int .i64 (srcN G L)) ∧ Below w.heap.size w w' := by
  obtain ⟨W0, hW0⟩ : ∃ W0, w.alloc (.cells #[.slice ao n cap] 24) = W0 := ⟨_, rfl⟩
  have hB0 : Below w.heap.size w W0 := by rw [← hW0]; exact (Below.refl _ _).alloc (Nat.le_refl _) _
  have hcg : W0.cell? ⟨w.heap.size, 0, none⟩ = some (.slice ao n cap) := by
    have hh : W0.heap[w.heap.size]? = some (.cells #[.slice ao n cap] 24 (0, 0)) := by rw [← hW0]; exact heap_alloc_new _ _
    simp [World.cell?, hh]
  by_cases h1 : pn = 1
  · obtain ⟨b, off, rfl, hc⟩ := hL.one (by omega)
    have HT : Hid (srcN G L = if foundB (ids G) (L.getD 0 0) = true then 0 else 71) := by
      show _ = _
      unfold srcN
      have : L.length = 1 := by omega
      simp [this]
    have HC : Hid (W0.cell? ⟨b, off, none⟩ = some (.int .i64 (L.getD 0 0))) := (hB0.cell (p := ⟨b, off, none⟩) (lt_cell hc)).trans hc
    have HG : Hid _ := kc_new hG hB0
    have HCg : Hid _ := hcg
    have HB0 : Hid _ := hB0
    have HN : Hid _ := hn
    generalize L.getD 0 0 = x at HC HT
    subst h1
    rw [HT.out]
    obtain ⟨fb, hfb⟩ : ∃ fb, foundB (ids G) x = fb := ⟨_, rfl⟩
    have HF : Hid _ := hfb
    rw [hfb]
    clear hn hp hL hG hc HT hcg hB0 hfb
    go_enter Try.func57, Try.ntmps57
    go_upto_region 3 with fail
    refine source_r3 (bx := w.heap.size) (b := b) (off := off) (n := n) (cap := cap) (pc := pc) (ao := ao) (P := P) (G := G) (x := x) (fb := fb) rfl rfl rfl HCg.out HC.out HN.out HG.out hl hr HF.out ?_
    intro X W hb h6
    simp only [puts]
    rw [h6]
    generalize X 5 = x5
    generalize X 10 = x10
    generalize X 11 = x11
    generalize X 12 = x12
    generalize X 13 = x13
    generalize X 14 = x14
    generalize X 15 = x15
    generalize X 16 = x16
    generalize X 17 = x17
    have HB1 : Hid _ := HB0.out.trans (hb.mono HB0.out.size)
    clear hb h6 X
    cases fb
    · go_wp2
      go_ret
      exact ⟨by simp, HB1.out⟩
    · go_wp2
      go_ret
      exact ⟨by simp, HB1.out⟩
  · have HT : Hid (srcN G L = 71) := by
      show _ = _
      unfold srcN
      rw [if_neg (by omega)]
    rw [HT.out]
    have hb : ((pn : Int) != 1) = true := by simp; omega
    have HB0 : Hid _ := hB0
    clear hn hp hL hG HT hcg hB0
    go_enter Try.func57, Try.ntmps57
    go_wp2
    all_goals first | (exfalso; omega) | (go_ret; exact ⟨rfl, HB0.out⟩)
end Go.Proofs.Ytnijacbfcffnpaa
