import Derived.Test.YthnhmhjcpdomcaaMuSetM
import Derived.Test.YthnhmhjcpdomcaaMuThat
import Derived.Deep.Cut
import Derived.Deep.DeepCutAuto
import Derived.Test.YthnhmhjcpdomcaaGrRef
import Derived.Test.YthnhmhjcpdomcaaLawMBoxM
section
/- Region 16 of MutStands: a vertex that goes does not stand, but where it comes. -/
namespace Go.Proofs.Ythnhmhjcpdomcaa
open Go.RowKit
set_option maxRecDepth 100000 in
set_option maxHeartbeats 4000000 in
theorem stands_r16zf {W0 : World} {A : Act} {b off n cap j m1 n1 : Nat} {x : Int} {f1 : Int → Bool} {K : Act → World → Prop} {Q' : Exit → Act → World → Prop} (hsz : A.tmps.size = 229) (hA10 : A.eval (.tmp 10) = .slice (some ⟨b, off, none⟩) n cap) (hA11 : A.eval (.tmp 11) = .int .i64 j) (hA5 : A.eval (.tmp 5) = .map (some m1)) (hj : j < n) (hx : W0.cell? ⟨b, off + j * 3, none⟩ = some (.int .i64 x)) (hxx : I64 x) (hM1 : BMap W0 m1 n1 f1) (hf1 : f1 x = false) (hpj : Hid (j = 0)) 
    (HK : ∀ X W, Below W0.heap.size W0 W → X 141 = .bool false → K (puts A X [107, 108, 109, 110, 111, 112, 113, 114, 115, 116, 117, 118, 119, 120, 121, 122, 123, 124, 125, 126, 127, 128, 129, 130, 131, 132, 133, 134, 135, 136, 137, 138, 139, 140, 141]) W) :
    Code.wp Try.prog ((Try.f8.body.bind (regionJ 16)).getD .skip) (Exit.then K Q') A W0 := by
  obtain ⟨ds, hds⟩ : ∃ ds, [107, 108, 109, 110, 111, 112, 113, 114, 115, 116, 117, 118, 119, 120, 121, 122, 123, 124, 125, 126, 127, 128, 129, 130, 131, 132, 133, 134, 135, 136, 137, 138, 139, 140, 141] = ds := ⟨_, rfl⟩
  have hlt : ∀ d ∈ [107, 108, 109, 110, 111, 112, 113, 114, 115, 116, 117, 118, 119, 120, 121, 122, 123, 124, 125, 126, 127, 128, 129, 130, 131, 132, 133, 134, 135, 136, 137, 138, 139, 140, 141], d < A.tmps.size := by rw [hsz]; decide
  have hin : ∀ {X : Nat → Value} {k : Nat}, k ∈ [107, 108, 109, 110, 111, 112, 113, 114, 115, 116, 117, 118, 119, 120, 121, 122, 123, 124, 125, 126, 127, 128, 129, 130, 131, 132, 133, 134, 135, 136, 137, 138, 139, 140, 141] → (puts A X ds).eval (.tmp k) = X k := fun hk => by rw [← hds]; exact eval_in hk (hlt _ hk)
  have hout : ∀ {X : Nat → Value} {k : Nat}, k ∉ [107, 108, 109, 110, 111, 112, 113, 114, 115, 116, 117, 118, 119, 120, 121, 122, 123, 124, 125, 126, 127, 128, 129, 130, 131, 132, 133, 134, 135, 136, 137, 138, 139, 140, 141] → (puts A X ds).eval (.tmp k) = A.eval (.tmp k) := fun hk => by rw [← hds]; exact eval_out hk
  have g0 : ds.getD 0 0 = 107 := by rw [← hds]; rfl
  have g1 : ds.getD 1 0 = 108 := by rw [← hds]; rfl
  have g2 : ds.getD 2 0 = 109 := by rw [← hds]; rfl
  have g3 : ds.getD 3 0 = 110 := by rw [← hds]; rfl
  have g4 : ds.getD 4 0 = 111 := by rw [← hds]; rfl
  have g5 : ds.getD 5 0 = 112 := by rw [← hds]; rfl
  have g6 : ds.getD 6 0 = 113 := by rw [← hds]; rfl
  have g7 : ds.getD 7 0 = 114 := by rw [← hds]; rfl
  have g8 : ds.getD 8 0 = 115 := by rw [← hds]; rfl
  have g9 : ds.getD 9 0 = 116 := by rw [← hds]; rfl
  have g10 : ds.getD 10 0 = 117 := by rw [← hds]; rfl
  have g11 : ds.getD 11 0 = 118 := by rw [← hds]; rfl
  have g12 : ds.getD 12 0 = 119 := by rw [← hds]; rfl
  have g13 : ds.getD 13 0 = 120 := by rw [← hds]; rfl
  have g14 : ds.getD 14 0 = 121 := by rw [← hds]; rfl
  have g15 : ds.getD 15 0 = 122 := by rw [← hds]; rfl
  have g16 : ds.getD 16 0 = 123 := by rw [← hds]; rfl
  have g17 : ds.getD 17 0 = 124 := by rw [← hds]; rfl
  have g18 : ds.getD 18 0 = 125 := by rw [← hds]; rfl
  have g19 : ds.getD 19 0 = 126 := by rw [← hds]; rfl
  have g20 : ds.getD 20 0 = 127 := by rw [← hds]; rfl
  have g21 : ds.getD 21 0 = 128 := by rw [← hds]; rfl
  have g22 : ds.getD 22 0 = 129 := by rw [← hds]; rfl
  have g23 : ds.getD 23 0 = 130 := by rw [← hds]; rfl
  have g24 : ds.getD 24 0 = 131 := by rw [← hds]; rfl
  have g25 : ds.getD 25 0 = 132 := by rw [← hds]; rfl
  have g26 : ds.getD 26 0 = 133 := by rw [← hds]; rfl
  have g27 : ds.getD 27 0 = 134 := by rw [← hds]; rfl
  have g28 : ds.getD 28 0 = 135 := by rw [← hds]; rfl
  have g29 : ds.getD 29 0 = 136 := by rw [← hds]; rfl
  have g30 : ds.getD 30 0 = 137 := by rw [← hds]; rfl
  have g31 : ds.getD 31 0 = 138 := by rw [← hds]; rfl
  have g32 : ds.getD 32 0 = 139 := by rw [← hds]; rfl
  have g33 : ds.getD 33 0 = 140 := by rw [← hds]; rfl
  have g34 : ds.getD 34 0 = 141 := by rw [← hds]; rfl
  obtain ⟨gb, hgbE⟩ : ∃ gb : Nat → Bool, (fun j => if j = 2 then false else if j = 16 then false else if j = 24 then false else true) = gb := ⟨_, rfl⟩
  have gb2 : gb 2 = false := by rw [← hgbE]; rfl
  have gb16 : gb 16 = false := by rw [← hgbE]; rfl
  have gb24 : gb 24 = false := by rw [← hgbE]; rfl
  obtain ⟨V, hV, e0, e1, e2, e3, e4, e5, e6, e7, e8, e9, e10, e11, e12, e13, e14, e15, e16, e17, e18, e19, e20, e21, e22, e23, e24, e25, e26, e27, e28, e29, e30, e31, e32, e33, e34⟩ : ∃ V : Nat → Value → World → Prop, (∀ i v W W', V i v W → Below W.heap.size W W' → V i v W') ∧ (∀ v W, V 0 v W = (v = .int .i64 j)) ∧ (∀ v W, V 1 v W = (v = .bool false)) ∧ (∀ v W, V 2 v W = (v = .bool false)) ∧ (∀ v W, V 3 v W = (True)) ∧ (∀ v W, V 4 v W = (True)) ∧ (∀ v W, V 5 v W = (True)) ∧ (∀ v W, V 6 v W = (True)) ∧ (∀ v W, V 7 v W = (True)) ∧ (∀ v W, V 8 v W = (True)) ∧ (∀ v W, V 9 v W = (True)) ∧ (∀ v W, V 10 v W = (True)) ∧ (∀ v W, V 11 v W = (True)) ∧ (∀ v W, V 12 v W = (True)) ∧ (∀ v W, V 13 v W = (True)) ∧ (∀ v W, V 14 v W = (True)) ∧ (∀ v W, V 15 v W = (v = .bool false)) ∧ (∀ v W, V 16 v W = (v = .bool false)) ∧ (∀ v W, V 17 v W = (v = .map (some m1))) ∧ (∀ v W, V 18 v W = (v = .slice (some ⟨b, off, none⟩) n cap)) ∧ (∀ v W, V 19 v W = (v = .int .i64 j)) ∧ (∀ v W, V 20 v W = (v = .pointer (some ⟨b, off + j * 3, none⟩))) ∧ (∀ v W, V 21 v W = (v = .pointer (some ⟨b, off + j * 3, none⟩))) ∧ (∀ v W, V 22 v W = (v = .int .i64 x)) ∧ (∀ v W, V 23 v W = (v = .bool false)) ∧ (∀ v W, V 24 v W = (v = .bool false)) ∧ (∀ v W, V 25 v W = (True)) ∧ (∀ v W, V 26 v W = (True)) ∧ (∀ v W, V 27 v W = (True)) ∧ (∀ v W, V 28 v W = (True)) ∧ (∀ v W, V 29 v W = (True)) ∧ (∀ v W, V 30 v W = (True)) ∧ (∀ v W, V 31 v W = (True)) ∧ (∀ v W, V 32 v W = (True)) ∧ (∀ v W, V 33 v W = (v = .bool false)) ∧ (∀ v W, V 34 v W = (v = .bool false)) := by
    refine ⟨fun i v W => match i with
      | 0 => v = .int .i64 j
      | 1 => v = .bool false
      | 2 => v = .bool false
      | 3 => True
      | 4 => True
      | 5 => True
      | 6 => True
      | 7 => True
      | 8 => True
      | 9 => True
      | 10 => True
      | 11 => True
      | 12 => True
      | 13 => True
      | 14 => True
      | 15 => v = .bool false
      | 16 => v = .bool false
      | 17 => v = .map (some m1)
      | 18 => v = .slice (some ⟨b, off, none⟩) n cap
      | 19 => v = .int .i64 j
      | 20 => v = .pointer (some ⟨b, off + j * 3, none⟩)
      | 21 => v = .pointer (some ⟨b, off + j * 3, none⟩)
      | 22 => v = .int .i64 x
      | 23 => v = .bool false
      | 24 => v = .bool false
      | 25 => True
      | 26 => True
      | 27 => True
      | 28 => True
      | 29 => True
      | 30 => True
      | 31 => True
      | 32 => True
      | 33 => v = .bool false
      | 34 => v = .bool false
      | _ => True, ?_, fun _ _ => rfl, fun _ _ => rfl, fun _ _ => rfl, fun _ _ => rfl, fun _ _ => rfl, fun _ _ => rfl, fun _ _ => rfl, fun _ _ => rfl, fun _ _ => rfl, fun _ _ => rfl, fun _ _ => rfl, fun _ _ => rfl, fun _ _ => rfl, fun _ _ => rfl, fun _ _ => rfl, fun _ _ => rfl, fun _ _ => rfl, fun _ _ => rfl, fun _ _ => rfl, fun _ _ => rfl, fun _ _ => rfl, fun _ _ => rfl, fun _ _ => rfl, fun _ _ => rfl, fun _ _ => rfl, fun _ _ => rfl, fun _ _ => rfl, fun _ _ => rfl, fun _ _ => rfl, fun _ _ => rfl, fun _ _ => rfl, fun _ _ => rfl, fun _ _ => rfl, fun _ _ => rfl, fun _ _ => rfl⟩
    intro i v W W' h hb
    match i, h with
    | 0, h => exact h
    | 1, h => exact h
    | 2, h => exact h
    | 3, h => exact h
    | 4, h => exact h
    | 5, h => exact h
    | 6, h => exact h
    | 7, h => exact h
    | 8, h => exact h
    | 9, h => exact h
    | 10, h => exact h
    | 11, h => exact h
    | 12, h => exact h
    | 13, h => exact h
    | 14, h => exact h
    | 15, h => exact h
    | 16, h => exact h
    | 17, h => exact h
    | 18, h => exact h
    | 19, h => exact h
    | 20, h => exact h
    | 21, h => exact h
    | 22, h => exact h
    | 23, h => exact h
    | 24, h => exact h
    | 25, h => exact h
    | 26, h => exact h
    | 27, h => exact h
    | 28, h => exact h
    | 29, h => exact h
    | 30, h => exact h
    | 31, h => exact h
    | 32, h => exact h
    | 33, h => exact h
    | 34, h => exact h
    | _ + 35, _ => trivial
  conv => arg 2; whnf
  refine wp_region_G ds V gb (by kernel_rfl) (by kernel_rfl) (by rw [← hds]; kernel_rfl) (by rw [← hds]; exact hlt) hV ?_ ?_ ?_
  · intro i o j want ho hg v W hv
    have hj : j ∈ [2, 16, 24] := guards_at (by kernel_rfl) ho hg
    simp only [List.mem_cons, List.not_mem_nil, or_false] at hj
    rcases hj with rfl | rfl | rfl
    · rw [gb2]; rw [e2] at hv; exact hv
    · rw [gb16]; rw [e16] at hv; exact hv
    · rw [gb24]; rw [e24] at hv; exact hv
  · refine ⟨?_, ?_, ?_, ?_, ?_, ?_, ?_, ?_, ?_, ?_, ?_, ?_, ?_, ?_, ?_, ?_, ?_, ?_, ?_, ?_, ?_, ?_, ?_, ?_, ?_, ?_, ?_, ?_, ?_, ?_, ?_, ?_, ?_, ?_, ?_, trivial⟩
    · refine ⟨fun _ X W hb hd hu => ?_, fun h => absurd (show true = false from h) (by decide)⟩
      have h0 := hout (X := X) (k := 11) (by decide)
      rw [hA11] at h0
      refine v_value (V := V 0) (v := .int .i64 j) ?_ (by rw [e0])
      generalize (puts A X ds).eval = ρ at h0 ⊢
      go_simp
    · refine ⟨fun _ X W hb hd hu => ?_, fun h => absurd (show true = false from h) (by decide)⟩
      have d0 := hd 0 (by kernel_rfl)
      rw [e0, g0] at d0
      have h0 := (hin (X := X) (k := 107) (by decide)).trans d0
      have h1 : (puts A X ds).eval (.const (.int .i64 0)) = .int .i64 0 := rfl
      have hp1 : decide ((0:Int) < j) = false := by have := hpj.out; simp; omega
      refine v_value (V := V 1) (v := .bool false) ?_ (by rw [e1])
      generalize (puts A X ds).eval = ρ at h0 h1 ⊢
      go_simp
      have := hpj.out; omega
    · refine ⟨fun _ X W hb hd hu => ?_, fun h => absurd (show true = false from h) (by decide)⟩
      have d0 := hd 1 (by kernel_rfl)
      rw [e1, g1] at d0
      have h0 := (hin (X := X) (k := 108) (by decide)).trans d0
      refine v_value (V := V 2) (v := .bool false) ?_ (by rw [e2])
      generalize (puts A X ds).eval = ρ at h0 ⊢
      go_simp
    · refine ⟨fun h => (by have h' : (gb 2 == true) = true := h; rw [gb2] at h'; cases h'), fun _ W => (by rw [e3]; trivial)⟩
    · refine ⟨fun h => (by have h' : (gb 2 == true) = true := h; rw [gb2] at h'; cases h'), fun _ W => (by rw [e4]; trivial)⟩
    · refine ⟨fun h => (by have h' : (gb 2 == true) = true := h; rw [gb2] at h'; cases h'), fun _ W => (by rw [e5]; trivial)⟩
    · refine ⟨fun h => (by have h' : (gb 2 == true) = true := h; rw [gb2] at h'; cases h'), fun _ W => (by rw [e6]; trivial)⟩
    · refine ⟨fun h => (by have h' : (gb 2 == true) = true := h; rw [gb2] at h'; cases h'), fun _ W => (by rw [e7]; trivial)⟩
    · refine ⟨fun h => (by have h' : (gb 2 == true) = true := h; rw [gb2] at h'; cases h'), fun _ W => (by rw [e8]; trivial)⟩
    · refine ⟨fun h => (by have h' : (gb 2 == true) = true := h; rw [gb2] at h'; cases h'), fun _ W => (by rw [e9]; trivial)⟩
    · refine ⟨fun h => (by have h' : (gb 2 == true) = true := h; rw [gb2] at h'; cases h'), fun _ W => (by rw [e10]; trivial)⟩
    · refine ⟨fun h => (by have h' : (gb 2 == true) = true := h; rw [gb2] at h'; cases h'), fun _ W => (by rw [e11]; trivial)⟩
    · refine ⟨fun h => (by have h' : (gb 2 == true) = true := h; rw [gb2] at h'; cases h'), fun _ W => (by rw [e12]; trivial)⟩
    · refine ⟨fun h => (by have h' : (gb 2 == true) = true := h; rw [gb2] at h'; cases h'), fun _ W => (by rw [e13]; trivial)⟩
    · refine ⟨fun h => (by have h' : (gb 2 == true) = true := h; rw [gb2] at h'; cases h'), fun _ W => (by rw [e14]; trivial)⟩
    · refine ⟨fun _ X W hb hd hu => ?_, fun h => absurd (show true = false from h) (by decide)⟩
      have d0 := hd 2 (by kernel_rfl)
      rw [e2, g2] at d0
      have h0 := (hin (X := X) (k := 109) (by decide)).trans d0
      have h1 : (puts A X ds).eval (.const (.bool false)) = .bool false := rfl
      refine v_value (V := V 15) (v := .bool false) ?_ (by rw [e15])
      generalize (puts A X ds).eval = ρ at h0 h1 ⊢
      go_simp
    · refine ⟨fun _ X W hb hd hu => ?_, fun h => absurd (show true = false from h) (by decide)⟩
      have d0 := hd 15 (by kernel_rfl)
      rw [e15, g15] at d0
      have h0 := (hin (X := X) (k := 122) (by decide)).trans d0
      refine v_value (V := V 16) (v := .bool false) ?_ (by rw [e16])
      generalize (puts A X ds).eval = ρ at h0 ⊢
      go_simp
    · refine ⟨fun _ X W hb hd hu => ?_, fun h => (by have h' : (gb 16 == false) = false := h; rw [gb16] at h'; cases h')⟩
      have h0 := hout (X := X) (k := 5) (by decide)
      rw [hA5] at h0
      refine v_value (V := V 17) (v := .map (some m1)) ?_ (by rw [e17])
      generalize (puts A X ds).eval = ρ at h0 ⊢
      go_simp
    · refine ⟨fun _ X W hb hd hu => ?_, fun h => (by have h' : (gb 16 == false) = false := h; rw [gb16] at h'; cases h')⟩
      have h0 := hout (X := X) (k := 10) (by decide)
      rw [hA10] at h0
      refine v_value (V := V 18) (v := .slice (some ⟨b, off, none⟩) n cap) ?_ (by rw [e18])
      generalize (puts A X ds).eval = ρ at h0 ⊢
      go_simp
    · refine ⟨fun _ X W hb hd hu => ?_, fun h => (by have h' : (gb 16 == false) = false := h; rw [gb16] at h'; cases h')⟩
      have h0 := hout (X := X) (k := 11) (by decide)
      rw [hA11] at h0
      refine v_value (V := V 19) (v := .int .i64 j) ?_ (by rw [e19])
      generalize (puts A X ds).eval = ρ at h0 ⊢
      go_simp
    · refine ⟨fun _ X W hb hd hu => ?_, fun h => (by have h' : (gb 16 == false) = false := h; rw [gb16] at h'; cases h')⟩
      have d0 := hd 18 (by kernel_rfl)
      rw [e18, g18] at d0
      have h0 := (hin (X := X) (k := 125) (by decide)).trans d0
      have d1 := hd 19 (by kernel_rfl)
      rw [e19, g19] at d1
      have h1 := (hin (X := X) (k := 126) (by decide)).trans d1
      have hj1 : (0:Int) ≤ j := by omega
      have hj2 : (j : Int) < n := by omega
      refine v_value (V := V 20) (v := .pointer (some ⟨b, off + j * 3, none⟩)) ?_ (by rw [e20])
      generalize (puts A X ds).eval = ρ at h0 h1 ⊢
      go_simp
    · refine ⟨fun _ X W hb hd hu => ?_, fun h => (by have h' : (gb 16 == false) = false := h; rw [gb16] at h'; cases h')⟩
      have d0 := hd 20 (by kernel_rfl)
      rw [e20, g20] at d0
      have h0 := (hin (X := X) (k := 127) (by decide)).trans d0
      refine v_value (V := V 21) (v := .pointer (some ⟨b, off + j * 3, none⟩)) ?_ (by rw [e21])
      generalize (puts A X ds).eval = ρ at h0 ⊢
      go_simp
    · refine ⟨fun _ X W hb hd hu => ?_, fun h => (by have h' : (gb 16 == false) = false := h; rw [gb16] at h'; cases h')⟩
      have d0 := hd 21 (by kernel_rfl)
      rw [e21, g21] at d0
      have h0 := (hin (X := X) (k := 128) (by decide)).trans d0
      have c0 := (hb.cell (p := ⟨b, off + j * 3, none⟩) (lt_cell hx)).trans hx
      refine v_value (V := V 22) (v := .int .i64 x) ?_ (by rw [e22])
      generalize (puts A X ds).eval = ρ at h0 ⊢
      go_simp
    · refine ⟨fun _ X W hb hd hu => ?_, fun h => (by have h' : (gb 16 == false) = false := h; rw [gb16] at h'; cases h')⟩
      have d0 := hd 17 (by kernel_rfl)
      rw [e17, g17] at d0
      have h0 := (hin (X := X) (k := 124) (by decide)).trans d0
      have d1 := hd 22 (by kernel_rfl)
      rw [e22, g22] at d1
      have h1 := (hin (X := X) (k := 129) (by decide)).trans d1
      have c0 := (hM1.new hb).look hxx
      rw [hf1] at c0
      refine v_value (V := V 23) (v := .bool false) ?_ (by rw [e23])
      generalize (puts A X ds).eval = ρ at h0 h1 ⊢
      go_simp
    · refine ⟨fun _ X W hb hd hu => ?_, fun h => (by have h' : (gb 16 == false) = false := h; rw [gb16] at h'; cases h')⟩
      have d0 := hd 23 (by kernel_rfl)
      rw [e23, g23] at d0
      have h0 := (hin (X := X) (k := 130) (by decide)).trans d0
      refine v_value (V := V 24) (v := .bool false) ?_ (by rw [e24])
      generalize (puts A X ds).eval = ρ at h0 ⊢
      go_simp
    · refine ⟨fun h => (by have h' : (gb 24 == true) = true := h; rw [gb24] at h'; cases h'), fun _ W => (by rw [e25]; trivial)⟩
    · refine ⟨fun h => (by have h' : (gb 24 == true) = true := h; rw [gb24] at h'; cases h'), fun _ W => (by rw [e26]; trivial)⟩
    · refine ⟨fun h => (by have h' : (gb 24 == true) = true := h; rw [gb24] at h'; cases h'), fun _ W => (by rw [e27]; trivial)⟩
    · refine ⟨fun h => (by have h' : (gb 24 == true) = true := h; rw [gb24] at h'; cases h'), fun _ W => (by rw [e28]; trivial)⟩
    · refine ⟨fun h => (by have h' : (gb 24 == true) = true := h; rw [gb24] at h'; cases h'), fun _ W => (by rw [e29]; trivial)⟩
    · refine ⟨fun h => (by have h' : (gb 24 == true) = true := h; rw [gb24] at h'; cases h'), fun _ W => (by rw [e30]; trivial)⟩
    · refine ⟨fun h => (by have h' : (gb 24 == true) = true := h; rw [gb24] at h'; cases h'), fun _ W => (by rw [e31]; trivial)⟩
    · refine ⟨fun h => (by have h' : (gb 24 == true) = true := h; rw [gb24] at h'; cases h'), fun _ W => (by rw [e32]; trivial)⟩
    · refine ⟨fun _ X W hb hd hu => ?_, fun h => (by have h' : (gb 16 == false) = false := h; rw [gb16] at h'; cases h')⟩
      have d0 := hd 24 (by kernel_rfl)
      rw [e24, g24] at d0
      have h0 := (hin (X := X) (k := 131) (by decide)).trans d0
      have h1 : (puts A X ds).eval (.const (.bool false)) = .bool false := rfl
      refine v_value (V := V 33) (v := .bool false) ?_ (by rw [e33])
      generalize (puts A X ds).eval = ρ at h0 h1 ⊢
      go_simp
    · refine ⟨fun _ X W hb hd hu => ?_, fun h => absurd (show true = false from h) (by decide)⟩
      have d0 := hd 16 (by kernel_rfl)
      rw [e16, g16] at d0
      have h0 := (hin (X := X) (k := 123) (by decide)).trans d0
      have d1 := hd 33 (by kernel_rfl)
      rw [e33, g33] at d1
      have h1 := (hin (X := X) (k := 140) (by decide)).trans d1
      have h2 : (puts A X ds).eval (.const (.bool true)) = .bool true := rfl
      refine v_value (V := V 34) (v := .bool false) ?_ (by rw [e34])
      generalize (puts A X ds).eval = ρ at h0 h1 h2 ⊢
      go_simp
  · intro X W hb hall
    have r34 := hall 34 (by decide)
    rw [e34, g34] at r34
    have := HK X W hb r34
    rw [hds] at this
    exact this
end Go.Proofs.Ythnhmhjcpdomcaa
end

section
/- Region 18 of MutStands: was it there? -/
namespace Go.Proofs.Ythnhmhjcpdomcaa
open Go.RowKit
set_option maxRecDepth 100000 in
set_option maxHeartbeats 1000000 in
theorem stands_r18 {W0 : World} {A : Act} {bx b off n cap j gn gc : Nat} {x : Int} {ao : Option Addr} {P : Nat → Prop} {G : List Vx} {fb : Bool} {K : Act → World → Prop} {Q' : Exit → Act → World → Prop} (hsz : A.tmps.size = 229) (hA2 : A.eval (.tmp 2) = .pointer (some ⟨bx, 0, none⟩)) (hA10 : A.eval (.tmp 10) = .slice (some ⟨b, off, none⟩) n cap) (hA11 : A.eval (.tmp 11) = .int .i64 j) (hB : W0.cell? ⟨bx, 0, none⟩ = some (.slice ao gn gc)) (hgn : Hid (gn = G.length)) (hj : j < n) (hx : W0.cell? ⟨b, off + j * 3, none⟩ = some (.int .i64 x)) (hG : VxAt W0 P ao G) (hok : ∀ v ∈ G, v.ok) (hl : G.length * 40 ≤ 140737488355328) (hfb : foundB (ids G) x = fb)
    (HK : ∀ X W, Below W0.heap.size W0 W → X 13 = .bool fb → K (puts A X [143, 144, 145, 146, 147, 148, 149, 150, 142, 151, 152, 12, 13]) W) :
    Code.wp Try.prog ((Try.f8.body.bind (regionJ 18)).getD .skip) (Exit.then K Q') A W0 := by
  obtain ⟨ds, hds⟩ : ∃ ds, [143, 144, 145, 146, 147, 148, 149, 150, 142, 151, 152, 12, 13] = ds := ⟨_, rfl⟩
  have hin : ∀ {X : Nat → Value} {k : Nat}, k ∈ [143, 144, 145, 146, 147, 148, 149, 150, 142, 151, 152, 12, 13] → (puts A X ds).eval (.tmp k) = X k := fun hk => by rw [← hds]; exact eval_in hk (by rw [hsz]; revert hk; simp only [List.mem_cons, List.not_mem_nil, or_false]; omega)
  have hout : ∀ {X : Nat → Value} {k : Nat}, k ∉ [143, 144, 145, 146, 147, 148, 149, 150, 142, 151, 152, 12, 13] → (puts A X ds).eval (.tmp k) = A.eval (.tmp k) := fun hk => by rw [← hds]; exact eval_out hk
  have g0 : ds.getD 0 0 = 143 := by rw [← hds]; rfl
  have g1 : ds.getD 1 0 = 144 := by rw [← hds]; rfl
  have g2 : ds.getD 2 0 = 145 := by rw [← hds]; rfl
  have g3 : ds.getD 3 0 = 146 := by rw [← hds]; rfl
  have g4 : ds.getD 4 0 = 147 := by rw [← hds]; rfl
  have g5 : ds.getD 5 0 = 148 := by rw [← hds]; rfl
  have g6 : ds.getD 6 0 = 149 := by rw [← hds]; rfl
  have g7 : ds.getD 7 0 = 150 := by rw [← hds]; rfl
  have g8 : ds.getD 8 0 = 142 := by rw [← hds]; rfl
  have g9 : ds.getD 9 0 = 151 := by rw [← hds]; rfl
  have g10 : ds.getD 10 0 = 152 := by rw [← hds]; rfl
  have g11 : ds.getD 11 0 = 12 := by rw [← hds]; rfl
  have g12 : ds.getD 12 0 = 13 := by rw [← hds]; rfl
  obtain ⟨V, hV, e0, e1, e2, e3, e4, e5, e6, e7, e8, e9, e10, e11, e12⟩ : ∃ V : Nat → Value → World → Prop, (∀ i v W W', V i v W → Below W.heap.size W W' → V i v W') ∧ (∀ v W, V 0 v W = (v = .agg #[.slice ao gn gc])) ∧ (∀ v W, V 1 v W = (∃ bo c, v = .slice bo G.length c ∧ VxAt W (fun _ => True) bo G)) ∧ (∀ v W, V 2 v W = (v = .slice (some ⟨b, off, none⟩) n cap)) ∧ (∀ v W, V 3 v W = (v = .int .i64 j)) ∧ (∀ v W, V 4 v W = (v = .pointer (some ⟨b, off + j * 3, none⟩))) ∧ (∀ v W, V 5 v W = (v = .pointer (some ⟨b, off + j * 3, none⟩))) ∧ (∀ v W, V 6 v W = (v = .int .i64 x)) ∧ (∀ v W, V 7 v W = (v = .tuple #[.int .i64 (findN (ids G) x), .bool fb])) ∧ (∀ v W, V 8 v W = (v = .tuple #[.int .i64 (findN (ids G) x), .bool fb])) ∧ (∀ v W, V 9 v W = (v = .int .i64 (findN (ids G) x))) ∧ (∀ v W, V 10 v W = (v = .bool fb)) ∧ (∀ v W, V 11 v W = (v = .int .i64 (findN (ids G) x))) ∧ (∀ v W, V 12 v W = (v = .bool fb)) := by
    refine ⟨fun i v W => match i with
      | 0 => v = .agg #[.slice ao gn gc]
      | 1 => ∃ bo c, v = .slice bo G.length c ∧ VxAt W (fun _ => True) bo G
      | 2 => v = .slice (some ⟨b, off, none⟩) n cap
      | 3 => v = .int .i64 j
      | 4 => v = .pointer (some ⟨b, off + j * 3, none⟩)
      | 5 => v = .pointer (some ⟨b, off + j * 3, none⟩)
      | 6 => v = .int .i64 x
      | 7 => v = .tuple #[.int .i64 (findN (ids G) x), .bool fb]
      | 8 => v = .tuple #[.int .i64 (findN (ids G) x), .bool fb]
      | 9 => v = .int .i64 (findN (ids G) x)
      | 10 => v = .bool fb
      | 11 => v = .int .i64 (findN (ids G) x)
      | 12 => v = .bool fb
      | _ => True, ?_, fun _ _ => rfl, fun _ _ => rfl, fun _ _ => rfl, fun _ _ => rfl, fun _ _ => rfl, fun _ _ => rfl, fun _ _ => rfl, fun _ _ => rfl, fun _ _ => rfl, fun _ _ => rfl, fun _ _ => rfl, fun _ _ => rfl, fun _ _ => rfl⟩
    intro i v W W' h hb
    match i, h with
    | 0, h => exact h
    | 1, h => exact (by obtain ⟨bo, c, h1, h2⟩ := h; exact ⟨bo, c, h1, VxAt.new h2 hb⟩)
    | 2, h => exact h
    | 3, h => exact h
    | 4, h => exact h
    | 5, h => exact h
    | 6, h => exact h
    | 7, h => exact h
    | 8, h => exact h
    | 9, h => exact h
    | 10, h => exact h
    | 11, h => exact h
    | 12, h => exact h
    | _ + 13, _ => trivial
  conv => arg 2; whnf
  refine wp_region_V ds V (by kernel_rfl) (by kernel_rfl) (by rw [← hds]; kernel_rfl) hV ?_ ?_
  · refine ⟨?_, ?_, ?_, ?_, ?_, ?_, ?_, ?_, ?_, ?_, ?_, ?_, ?_, trivial⟩
    all_goals intro X W hb hd
    · have h0 := hout (X := X) (k := 2) (by decide)
      rw [hA2] at h0
      have c0 := (hb.cell (p := ⟨bx, 0, none⟩) (lt_cell hB)).trans hB
      refine v_value (V := V 0) (v := .agg #[.slice ao gn gc]) ?_ (by rw [e0])
      generalize (puts A X ds).eval = ρ at h0 ⊢
      go_simp
    · have d0 := hd 0 (by kernel_rfl)
      rw [e0, g0] at d0
      have h0 := (hin (X := X) (k := 143) (by decide)).trans d0
      have hf : (puts A X ds).eval (.func 13) = .func (.func 13) #[] #[] := rfl
      refine v_call (V := V 1) (f := 13) (vs := #[.agg #[.slice ao gn gc]]) ?_ ?_
      · generalize (puts A X ds).eval = ρ at h0 hf ⊢
        go_simp
      · rw [hgn.out]
        refine (ref_any G gc (VxAt.new hG hb) hok hl).mono ?_
        rintro r W' ⟨bo, c, rfl, hV', hb'⟩
        exact ⟨_, rfl, by rw [e1]; exact ⟨bo, c, rfl, hV'.kept (Fr.refl _ (fun _ => False)) (fun _ _ _ => ⟨fun h => h, trivial⟩)⟩, hb'⟩
    · have h0 := hout (X := X) (k := 10) (by decide)
      rw [hA10] at h0
      refine v_value (V := V 2) (v := .slice (some ⟨b, off, none⟩) n cap) ?_ (by rw [e2])
      generalize (puts A X ds).eval = ρ at h0 ⊢
      go_simp
    · have h0 := hout (X := X) (k := 11) (by decide)
      rw [hA11] at h0
      refine v_value (V := V 3) (v := .int .i64 j) ?_ (by rw [e3])
      generalize (puts A X ds).eval = ρ at h0 ⊢
      go_simp
    · have d0 := hd 2 (by kernel_rfl)
      rw [e2, g2] at d0
      have h0 := (hin (X := X) (k := 145) (by decide)).trans d0
      have d1 := hd 3 (by kernel_rfl)
      rw [e3, g3] at d1
      have h1 := (hin (X := X) (k := 146) (by decide)).trans d1
      have hj1 : (0:Int) ≤ j := by omega
      have hj2 : (j : Int) < n := by omega
      refine v_value (V := V 4) (v := .pointer (some ⟨b, off + j * 3, none⟩)) ?_ (by rw [e4])
      generalize (puts A X ds).eval = ρ at h0 h1 ⊢
      go_simp
    · have d0 := hd 4 (by kernel_rfl)
      rw [e4, g4] at d0
      have h0 := (hin (X := X) (k := 147) (by decide)).trans d0
      refine v_value (V := V 5) (v := .pointer (some ⟨b, off + j * 3, none⟩)) ?_ (by rw [e5])
      generalize (puts A X ds).eval = ρ at h0 ⊢
      go_simp
    · have d0 := hd 5 (by kernel_rfl)
      rw [e5, g5] at d0
      have h0 := (hin (X := X) (k := 148) (by decide)).trans d0
      have c0 := (hb.cell (p := ⟨b, off + j * 3, none⟩) (lt_cell hx)).trans hx
      refine v_value (V := V 6) (v := .int .i64 x) ?_ (by rw [e6])
      generalize (puts A X ds).eval = ρ at h0 ⊢
      go_simp
    · have d0 := hd 1 (by kernel_rfl)
      rw [e1, g1] at d0
      obtain ⟨bo, c, d0, hV⟩ := d0
      have h0 := (hin (X := X) (k := 144) (by decide)).trans d0
      have d1 := hd 6 (by kernel_rfl)
      rw [e6, g6] at d1
      have h1 := (hin (X := X) (k := 149) (by decide)).trans d1
      have hf : (puts A X ds).eval (.func 35) = .func (.func 35) #[] #[] := rfl
      refine v_call (V := V 7) (f := 35) (vs := #[.slice bo G.length c, .int .i64 x]) ?_ ?_
      · generalize (puts A X ds).eval = ρ at h0 h1 hf ⊢
        go_simp
      · refine (reffind_any c x hV (by omega)).mono ?_
        rintro r W' ⟨rfl, hb'⟩
        exact ⟨_, rfl, by rw [e7, hfb], hb'⟩
    · have d0 := hd 7 (by kernel_rfl)
      rw [e7, g7] at d0
      have h0 := (hin (X := X) (k := 150) (by decide)).trans d0
      refine v_value (V := V 8) (v := .tuple #[.int .i64 (findN (ids G) x), .bool fb]) ?_ (by rw [e8])
      generalize (puts A X ds).eval = ρ at h0 ⊢
      go_simp
    · have d0 := hd 8 (by kernel_rfl)
      rw [e8, g8] at d0
      have h0 := (hin (X := X) (k := 142) (by decide)).trans d0
      refine v_value (V := V 9) (v := .int .i64 (findN (ids G) x)) ?_ (by rw [e9])
      generalize (puts A X ds).eval = ρ at h0 ⊢
      go_simp
    · have d0 := hd 8 (by kernel_rfl)
      rw [e8, g8] at d0
      have h0 := (hin (X := X) (k := 142) (by decide)).trans d0
      refine v_value (V := V 10) (v := .bool fb) ?_ (by rw [e10])
      generalize (puts A X ds).eval = ρ at h0 ⊢
      go_simp
    · have d0 := hd 9 (by kernel_rfl)
      rw [e9, g9] at d0
      have h0 := (hin (X := X) (k := 151) (by decide)).trans d0
      refine v_value (V := V 11) (v := .int .i64 (findN (ids G) x)) ?_ (by rw [e11])
      generalize (puts A X ds).eval = ρ at h0 ⊢
      go_simp
    · have d0 := hd 10 (by kernel_rfl)
      rw [e10, g10] at d0
      have h0 := (hin (X := X) (k := 152) (by decide)).trans d0
      refine v_value (V := V 12) (v := .bool fb) ?_ (by rw [e12])
      generalize (puts A X ds).eval = ρ at h0 ⊢
      go_simp
  · intro X W hb hall
    have r0 := hall 0 (by decide)
    rw [e0, g0] at r0
    have r1 := hall 1 (by decide)
    rw [e1, g1] at r1
    have r2 := hall 2 (by decide)
    rw [e2, g2] at r2
    have r3 := hall 3 (by decide)
    rw [e3, g3] at r3
    have r4 := hall 4 (by decide)
    rw [e4, g4] at r4
    have r5 := hall 5 (by decide)
    rw [e5, g5] at r5
    have r6 := hall 6 (by decide)
    rw [e6, g6] at r6
    have r7 := hall 7 (by decide)
    rw [e7, g7] at r7
    have r8 := hall 8 (by decide)
    rw [e8, g8] at r8
    have r9 := hall 9 (by decide)
    rw [e9, g9] at r9
    have r10 := hall 10 (by decide)
    rw [e10, g10] at r10
    have r11 := hall 11 (by decide)
    rw [e11, g11] at r11
    have r12 := hall 12 (by decide)
    rw [e12, g12] at r12
    have := HK X W hb (by first | assumption | exact ⟨by assumption, by assumption⟩ | exact ⟨by assumption, by assumption, by assumption⟩ | simp_all)
    rw [hds] at this
    exact this
end Go.Proofs.Ythnhmhjcpdomcaa
end

section
/- Region 24 of MutStands: the edges rise. -/
namespace Go.Proofs.Ythnhmhjcpdomcaa
open Go.RowKit
set_option maxRecDepth 100000 in
set_option maxHeartbeats 1000000 in
theorem stands_r24 {W0 : World} {A : Act} {b off n cap j eb eoff en ec k p : Nat} {x y : Int} {K : Act → World → Prop} {Q' : Exit → Act → World → Prop} (hsz : A.tmps.size = 229) (hA10 : A.eval (.tmp 10) = .slice (some ⟨b, off, none⟩) n cap) (hA11 : A.eval (.tmp 11) = .int .i64 j) (hA14 : A.eval (.tmp 14) = .int .i64 k) (hj : j < n) (hk : k < en) (hen : en ≤ 1000000) (hpk : Hid (k = p + 1)) (he : W0.cell? ⟨b, off + j * 3 + 2, none⟩ = some (.slice (some ⟨eb, eoff, none⟩) en ec)) (hy : W0.cell? ⟨eb, eoff + p * 2, none⟩ = some (.int .i64 y)) (hx : W0.cell? ⟨eb, eoff + k * 2, none⟩ = some (.int .i64 x)) (hyx : y < x)
    (HK : ∀ X W, Below W0.heap.size W0 W → X 194 = .bool false → K (puts A X [175, 176, 177, 178, 179, 180, 181, 182, 183, 184, 185, 186, 187, 188, 189, 190, 191, 192, 193, 194]) W) :
    Code.wp Try.prog ((Try.f8.body.bind (regionJ 24)).getD .skip) (Exit.then K Q') A W0 := by
  obtain ⟨ds, hds⟩ : ∃ ds, [175, 176, 177, 178, 179, 180, 181, 182, 183, 184, 185, 186, 187, 188, 189, 190, 191, 192, 193, 194] = ds := ⟨_, rfl⟩
  have hin : ∀ {X : Nat → Value} {k : Nat}, k ∈ [175, 176, 177, 178, 179, 180, 181, 182, 183, 184, 185, 186, 187, 188, 189, 190, 191, 192, 193, 194] → (puts A X ds).eval (.tmp k) = X k := fun hk => by rw [← hds]; exact eval_in hk (by rw [hsz]; revert hk; simp only [List.mem_cons, List.not_mem_nil, or_false]; omega)
  have hout : ∀ {X : Nat → Value} {k : Nat}, k ∉ [175, 176, 177, 178, 179, 180, 181, 182, 183, 184, 185, 186, 187, 188, 189, 190, 191, 192, 193, 194] → (puts A X ds).eval (.tmp k) = A.eval (.tmp k) := fun hk => by rw [← hds]; exact eval_out hk
  have g0 : ds.getD 0 0 = 175 := by rw [← hds]; rfl
  have g1 : ds.getD 1 0 = 176 := by rw [← hds]; rfl
  have g2 : ds.getD 2 0 = 177 := by rw [← hds]; rfl
  have g3 : ds.getD 3 0 = 178 := by rw [← hds]; rfl
  have g4 : ds.getD 4 0 = 179 := by rw [← hds]; rfl
  have g5 : ds.getD 5 0 = 180 := by rw [← hds]; rfl
  have g6 : ds.getD 6 0 = 181 := by rw [← hds]; rfl
  have g7 : ds.getD 7 0 = 182 := by rw [← hds]; rfl
  have g8 : ds.getD 8 0 = 183 := by rw [← hds]; rfl
  have g9 : ds.getD 9 0 = 184 := by rw [← hds]; rfl
  have g10 : ds.getD 10 0 = 185 := by rw [← hds]; rfl
  have g11 : ds.getD 11 0 = 186 := by rw [← hds]; rfl
  have g12 : ds.getD 12 0 = 187 := by rw [← hds]; rfl
  have g13 : ds.getD 13 0 = 188 := by rw [← hds]; rfl
  have g14 : ds.getD 14 0 = 189 := by rw [← hds]; rfl
  have g15 : ds.getD 15 0 = 190 := by rw [← hds]; rfl
  have g16 : ds.getD 16 0 = 191 := by rw [← hds]; rfl
  have g17 : ds.getD 17 0 = 192 := by rw [← hds]; rfl
  have g18 : ds.getD 18 0 = 193 := by rw [← hds]; rfl
  have g19 : ds.getD 19 0 = 194 := by rw [← hds]; rfl
  obtain ⟨V, hV, e0, e1, e2, e3, e4, e5, e6, e7, e8, e9, e10, e11, e12, e13, e14, e15, e16, e17, e18, e19⟩ : ∃ V : Nat → Value → World → Prop, (∀ i v W W', V i v W → Below W.heap.size W W' → V i v W') ∧ (∀ v W, V 0 v W = (v = .slice (some ⟨b, off, none⟩) n cap)) ∧ (∀ v W, V 1 v W = (v = .int .i64 j)) ∧ (∀ v W, V 2 v W = (v = .pointer (some ⟨b, off + j * 3, none⟩))) ∧ (∀ v W, V 3 v W = (v = .pointer (some ⟨b, off + j * 3 + 2, none⟩))) ∧ (∀ v W, V 4 v W = (v = .slice (some ⟨eb, eoff, none⟩) en ec)) ∧ (∀ v W, V 5 v W = (v = .int .i64 k)) ∧ (∀ v W, V 6 v W = (v = .int .i64 p)) ∧ (∀ v W, V 7 v W = (v = .pointer (some ⟨eb, eoff + p * 2, none⟩))) ∧ (∀ v W, V 8 v W = (v = .pointer (some ⟨eb, eoff + p * 2, none⟩))) ∧ (∀ v W, V 9 v W = (v = .int .i64 y)) ∧ (∀ v W, V 10 v W = (v = .slice (some ⟨b, off, none⟩) n cap)) ∧ (∀ v W, V 11 v W = (v = .int .i64 j)) ∧ (∀ v W, V 12 v W = (v = .pointer (some ⟨b, off + j * 3, none⟩))) ∧ (∀ v W, V 13 v W = (v = .pointer (some ⟨b, off + j * 3 + 2, none⟩))) ∧ (∀ v W, V 14 v W = (v = .slice (some ⟨eb, eoff, none⟩) en ec)) ∧ (∀ v W, V 15 v W = (v = .int .i64 k)) ∧ (∀ v W, V 16 v W = (v = .pointer (some ⟨eb, eoff + k * 2, none⟩))) ∧ (∀ v W, V 17 v W = (v = .pointer (some ⟨eb, eoff + k * 2, none⟩))) ∧ (∀ v W, V 18 v W = (v = .int .i64 x)) ∧ (∀ v W, V 19 v W = (v = .bool false)) := by
    refine ⟨fun i v W => match i with
      | 0 => v = .slice (some ⟨b, off, none⟩) n cap
      | 1 => v = .int .i64 j
      | 2 => v = .pointer (some ⟨b, off + j * 3, none⟩)
      | 3 => v = .pointer (some ⟨b, off + j * 3 + 2, none⟩)
      | 4 => v = .slice (some ⟨eb, eoff, none⟩) en ec
      | 5 => v = .int .i64 k
      | 6 => v = .int .i64 p
      | 7 => v = .pointer (some ⟨eb, eoff + p * 2, none⟩)
      | 8 => v = .pointer (some ⟨eb, eoff + p * 2, none⟩)
      | 9 => v = .int .i64 y
      | 10 => v = .slice (some ⟨b, off, none⟩) n cap
      | 11 => v = .int .i64 j
      | 12 => v = .pointer (some ⟨b, off + j * 3, none⟩)
      | 13 => v = .pointer (some ⟨b, off + j * 3 + 2, none⟩)
      | 14 => v = .slice (some ⟨eb, eoff, none⟩) en ec
      | 15 => v = .int .i64 k
      | 16 => v = .pointer (some ⟨eb, eoff + k * 2, none⟩)
      | 17 => v = .pointer (some ⟨eb, eoff + k * 2, none⟩)
      | 18 => v = .int .i64 x
      | 19 => v = .bool false
      | _ => True, ?_, fun _ _ => rfl, fun _ _ => rfl, fun _ _ => rfl, fun _ _ => rfl, fun _ _ => rfl, fun _ _ => rfl, fun _ _ => rfl, fun _ _ => rfl, fun _ _ => rfl, fun _ _ => rfl, fun _ _ => rfl, fun _ _ => rfl, fun _ _ => rfl, fun _ _ => rfl, fun _ _ => rfl, fun _ _ => rfl, fun _ _ => rfl, fun _ _ => rfl, fun _ _ => rfl, fun _ _ => rfl⟩
    intro i v W W' h hb
    match i, h with
    | 0, h => exact h
    | 1, h => exact h
    | 2, h => exact h
    | 3, h => exact h
    | 4, h => exact h
    | 5, h => exact h
    | 6, h => exact h
    | 7, h => exact h
    | 8, h => exact h
    | 9, h => exact h
    | 10, h => exact h
    | 11, h => exact h
    | 12, h => exact h
    | 13, h => exact h
    | 14, h => exact h
    | 15, h => exact h
    | 16, h => exact h
    | 17, h => exact h
    | 18, h => exact h
    | 19, h => exact h
    | _ + 20, _ => trivial
  conv => arg 2; whnf
  refine wp_region_V ds V (by kernel_rfl) (by kernel_rfl) (by rw [← hds]; kernel_rfl) hV ?_ ?_
  · refine ⟨?_, ?_, ?_, ?_, ?_, ?_, ?_, ?_, ?_, ?_, ?_, ?_, ?_, ?_, ?_, ?_, ?_, ?_, ?_, ?_, trivial⟩
    all_goals intro X W hb hd
    · have h0 := hout (X := X) (k := 10) (by decide)
      rw [hA10] at h0
      refine v_value (V := V 0) (v := .slice (some ⟨b, off, none⟩) n cap) ?_ (by rw [e0])
      generalize (puts A X ds).eval = ρ at h0 ⊢
      go_simp
    · have h0 := hout (X := X) (k := 11) (by decide)
      rw [hA11] at h0
      refine v_value (V := V 1) (v := .int .i64 j) ?_ (by rw [e1])
      generalize (puts A X ds).eval = ρ at h0 ⊢
      go_simp
    · have d0 := hd 0 (by kernel_rfl)
      rw [e0, g0] at d0
      have h0 := (hin (X := X) (k := 175) (by decide)).trans d0
      have d1 := hd 1 (by kernel_rfl)
      rw [e1, g1] at d1
      have h1 := (hin (X := X) (k := 176) (by decide)).trans d1
      have hj1 : (0:Int) ≤ j := by omega
      have hj2 : (j : Int) < n := by omega
      refine v_value (V := V 2) (v := .pointer (some ⟨b, off + j * 3, none⟩)) ?_ (by rw [e2])
      generalize (puts A X ds).eval = ρ at h0 h1 ⊢
      go_simp
    · have d0 := hd 2 (by kernel_rfl)
      rw [e2, g2] at d0
      have h0 := (hin (X := X) (k := 177) (by decide)).trans d0
      refine v_value (V := V 3) (v := .pointer (some ⟨b, off + j * 3 + 2, none⟩)) ?_ (by rw [e3])
      generalize (puts A X ds).eval = ρ at h0 ⊢
      go_simp
    · have d0 := hd 3 (by kernel_rfl)
      rw [e3, g3] at d0
      have h0 := (hin (X := X) (k := 178) (by decide)).trans d0
      have c0 := (hb.cell (p := ⟨b, off + j * 3 + 2, none⟩) (lt_cell he)).trans he
      refine v_value (V := V 4) (v := .slice (some ⟨eb, eoff, none⟩) en ec) ?_ (by rw [e4])
      generalize (puts A X ds).eval = ρ at h0 ⊢
      go_simp
    · have h0 := hout (X := X) (k := 14) (by decide)
      rw [hA14] at h0
      refine v_value (V := V 5) (v := .int .i64 k) ?_ (by rw [e5])
      generalize (puts A X ds).eval = ρ at h0 ⊢
      go_simp
    · have d0 := hd 5 (by kernel_rfl)
      rw [e5, g5] at d0
      have h0 := (hin (X := X) (k := 180) (by decide)).trans d0
      have h1 : (puts A X ds).eval (.const (.int .i64 1)) = .int .i64 1 := rfl
      have hp1 : (k : Int) - 1 = p := by have := hpk.out; omega
      have hp2 : IntKind.i64.wrap (p : Int) = p := IntWalk.i64_in _ (by have := hpk.out; omega)
      refine v_value (V := V 6) (v := .int .i64 p) ?_ (by rw [e6])
      generalize (puts A X ds).eval = ρ at h0 h1 ⊢
      go_simp
    · have d0 := hd 4 (by kernel_rfl)
      rw [e4, g4] at d0
      have h0 := (hin (X := X) (k := 179) (by decide)).trans d0
      have d1 := hd 6 (by kernel_rfl)
      rw [e6, g6] at d1
      have h1 := (hin (X := X) (k := 181) (by decide)).trans d1
      have hj1 : (0:Int) ≤ p := by omega
      have hj2 : (p : Int) < en := by have := hpk.out; omega
      refine v_value (V := V 7) (v := .pointer (some ⟨eb, eoff + p * 2, none⟩)) ?_ (by rw [e7])
      generalize (puts A X ds).eval = ρ at h0 h1 ⊢
      go_simp
    · have d0 := hd 7 (by kernel_rfl)
      rw [e7, g7] at d0
      have h0 := (hin (X := X) (k := 182) (by decide)).trans d0
      refine v_value (V := V 8) (v := .pointer (some ⟨eb, eoff + p * 2, none⟩)) ?_ (by rw [e8])
      generalize (puts A X ds).eval = ρ at h0 ⊢
      go_simp
    · have d0 := hd 8 (by kernel_rfl)
      rw [e8, g8] at d0
      have h0 := (hin (X := X) (k := 183) (by decide)).trans d0
      have c0 := (hb.cell (p := ⟨eb, eoff + p * 2, none⟩) (lt_cell hy)).trans hy
      refine v_value (V := V 9) (v := .int .i64 y) ?_ (by rw [e9])
      generalize (puts A X ds).eval = ρ at h0 ⊢
      go_simp
    · have h0 := hout (X := X) (k := 10) (by decide)
      rw [hA10] at h0
      refine v_value (V := V 10) (v := .slice (some ⟨b, off, none⟩) n cap) ?_ (by rw [e10])
      generalize (puts A X ds).eval = ρ at h0 ⊢
      go_simp
    · have h0 := hout (X := X) (k := 11) (by decide)
      rw [hA11] at h0
      refine v_value (V := V 11) (v := .int .i64 j) ?_ (by rw [e11])
      generalize (puts A X ds).eval = ρ at h0 ⊢
      go_simp
    · have d0 := hd 10 (by kernel_rfl)
      rw [e10, g10] at d0
      have h0 := (hin (X := X) (k := 185) (by decide)).trans d0
      have d1 := hd 11 (by kernel_rfl)
      rw [e11, g11] at d1
      have h1 := (hin (X := X) (k := 186) (by decide)).trans d1
      have hj1 : (0:Int) ≤ j := by omega
      have hj2 : (j : Int) < n := by omega
      refine v_value (V := V 12) (v := .pointer (some ⟨b, off + j * 3, none⟩)) ?_ (by rw [e12])
      generalize (puts A X ds).eval = ρ at h0 h1 ⊢
      go_simp
    · have d0 := hd 12 (by kernel_rfl)
      rw [e12, g12] at d0
      have h0 := (hin (X := X) (k := 187) (by decide)).trans d0
      refine v_value (V := V 13) (v := .pointer (some ⟨b, off + j * 3 + 2, none⟩)) ?_ (by rw [e13])
      generalize (puts A X ds).eval = ρ at h0 ⊢
      go_simp
    · have d0 := hd 13 (by kernel_rfl)
      rw [e13, g13] at d0
      have h0 := (hin (X := X) (k := 188) (by decide)).trans d0
      have c0 := (hb.cell (p := ⟨b, off + j * 3 + 2, none⟩) (lt_cell he)).trans he
      refine v_value (V := V 14) (v := .slice (some ⟨eb, eoff, none⟩) en ec) ?_ (by rw [e14])
      generalize (puts A X ds).eval = ρ at h0 ⊢
      go_simp
    · have h0 := hout (X := X) (k := 14) (by decide)
      rw [hA14] at h0
      refine v_value (V := V 15) (v := .int .i64 k) ?_ (by rw [e15])
      generalize (puts A X ds).eval = ρ at h0 ⊢
      go_simp
    · have d0 := hd 14 (by kernel_rfl)
      rw [e14, g14] at d0
      have h0 := (hin (X := X) (k := 189) (by decide)).trans d0
      have d1 := hd 15 (by kernel_rfl)
      rw [e15, g15] at d1
      have h1 := (hin (X := X) (k := 190) (by decide)).trans d1
      have hj1 : (0:Int) ≤ k := by omega
      have hj2 : (k : Int) < en := by omega
      refine v_value (V := V 16) (v := .pointer (some ⟨eb, eoff + k * 2, none⟩)) ?_ (by rw [e16])
      generalize (puts A X ds).eval = ρ at h0 h1 ⊢
      go_simp
    · have d0 := hd 16 (by kernel_rfl)
      rw [e16, g16] at d0
      have h0 := (hin (X := X) (k := 191) (by decide)).trans d0
      refine v_value (V := V 17) (v := .pointer (some ⟨eb, eoff + k * 2, none⟩)) ?_ (by rw [e17])
      generalize (puts A X ds).eval = ρ at h0 ⊢
      go_simp
    · have d0 := hd 17 (by kernel_rfl)
      rw [e17, g17] at d0
      have h0 := (hin (X := X) (k := 192) (by decide)).trans d0
      have c0 := (hb.cell (p := ⟨eb, eoff + k * 2, none⟩) (lt_cell hx)).trans hx
      refine v_value (V := V 18) (v := .int .i64 x) ?_ (by rw [e18])
      generalize (puts A X ds).eval = ρ at h0 ⊢
      go_simp
    · have d0 := hd 9 (by kernel_rfl)
      rw [e9, g9] at d0
      have h0 := (hin (X := X) (k := 184) (by decide)).trans d0
      have d1 := hd 18 (by kernel_rfl)
      rw [e18, g18] at d1
      have h1 := (hin (X := X) (k := 193) (by decide)).trans d1
      have hlt : ¬ x ≤ y := by omega
      refine v_value (V := V 19) (v := .bool false) ?_ (by rw [e19])
      generalize (puts A X ds).eval = ρ at h0 h1 ⊢
      go_simp
  · intro X W hb hall
    have r0 := hall 0 (by decide)
    rw [e0, g0] at r0
    have r1 := hall 1 (by decide)
    rw [e1, g1] at r1
    have r2 := hall 2 (by decide)
    rw [e2, g2] at r2
    have r3 := hall 3 (by decide)
    rw [e3, g3] at r3
    have r4 := hall 4 (by decide)
    rw [e4, g4] at r4
    have r5 := hall 5 (by decide)
    rw [e5, g5] at r5
    have r6 := hall 6 (by decide)
    rw [e6, g6] at r6
    have r7 := hall 7 (by decide)
    rw [e7, g7] at r7
    have r8 := hall 8 (by decide)
    rw [e8, g8] at r8
    have r9 := hall 9 (by decide)
    rw [e9, g9] at r9
    have r10 := hall 10 (by decide)
    rw [e10, g10] at r10
    have r11 := hall 11 (by decide)
    rw [e11, g11] at r11
    have r12 := hall 12 (by decide)
    rw [e12, g12] at r12
    have r13 := hall 13 (by decide)
    rw [e13, g13] at r13
    have r14 := hall 14 (by decide)
    rw [e14, g14] at r14
    have r15 := hall 15 (by decide)
    rw [e15, g15] at r15
    have r16 := hall 16 (by decide)
    rw [e16, g16] at r16
    have r17 := hall 17 (by decide)
    rw [e17, g17] at r17
    have r18 := hall 18 (by decide)
    rw [e18, g18] at r18
    have r19 := hall 19 (by decide)
    rw [e19, g19] at r19
    have := HK X W hb (by first | assumption | exact ⟨by assumption, by assumption⟩ | exact ⟨by assumption, by assumption, by assumption⟩ | simp_all)
    rw [hds] at this
    exact this
end Go.Proofs.Ythnhmhjcpdomcaa
end
