/- Graphs that may be: vertices and edges rise, and how many there are. -/
import Derived.Test.YthnhmhjcpdomcaaMuDo
namespace Go.Proofs.Ythnhmhjcpdomcaa
open Go.RowKit
theorem fold_sum : ∀ (G : List Vx) (a : Int) (B : Nat), 0 ≤ a → (∀ v ∈ G, v.es.length ≤ B) → a + G.length * B ≤ 4611686018427387904 → G.foldl (fun a v => wrap64 (a + v.es.length)) a = a + ((G.map fun v => v.es.length).sum : Nat) ∧ ∀ v ∈ G, (v.es.length : Int) ≤ ((G.map fun v => v.es.length).sum : Nat)
  | [], a, B, _, _, _ => ⟨by simp, fun v hv => (by cases hv)⟩
  | v :: G, a, B, h0, hB, hs => by
    have hv := hB v (by simp)
    have e : (((v :: G).length : Nat) : Int) * B = (G.length : Int) * B + B := by rw [List.length_cons]; push_cast; rw [Int.add_mul, Int.one_mul]
    rw [e] at hs
    have hp : (0 : Int) ≤ (G.length : Int) * B := Int.mul_nonneg (by omega) (by omega)
    have hw : wrap64 (a + v.es.length) = a + v.es.length := by
      have h2 : a + (v.es.length : Int) ≤ 4611686018427387904 := by omega
      unfold wrap64
      omega
    have ih := fold_sum G (a + v.es.length) B (by omega) (fun y hy => hB y (by simp [hy])) (by omega)
    rw [List.foldl_cons, hw, ih.1, List.map_cons, List.sum_cons]
    refine ⟨by push_cast; omega, fun y hy => ?_⟩
    rcases List.mem_cons.1 hy with rfl | hy
    · push_cast; omega
    · have := ih.2 y hy; push_cast; omega
theorem up_of {G : List Vx} (h : chk G = 0) (hok : ∀ v ∈ G, v.ok) : Up 2048 G := by
  have hl : G.length ≤ 256 := by
    unfold chk at h
    split at h
    · cases h
    · rename_i hn; omega
  have hs : sumE G ≤ 2048 := by
    unfold chk at h
    split at h
    · cases h
    · split at h
      · cases h
      · rename_i hn; omega
  have := fold_sum G 0 8796093022208 (Int.le_refl _) (fun v hv => (hok v hv).len) (by omega)
  have e : sumE G = ((G.map fun v => v.es.length).sum : Nat) := by unfold sumE; rw [this.1]; simp
  refine ⟨by omega, fun v hv => ?_⟩
  have := this.2 v hv
  omega
theorem fine_of {G : List Vx} (h : chk G = 0) : Fine G := by
  unfold chk at h
  split at h
  · cases h
  · rename_i hn
    split at h
    · cases h
    · rename_i hn2
      refine ⟨rise_pw.1 ((riseB_iff _).1 ?_), fun v hv => rise_pw.1 ((riseB_iff _).1 ?_)⟩
      · cases hb : riseB (ids G) with
        | true => rfl
        | false => exact absurd (Or.inr hb) hn
      · cases hb : risesE G with
        | true => exact List.all_eq_true.1 hb v hv
        | false => exact absurd (Or.inr (Or.inl hb)) hn2
/-- Numbers of 64 bits stay such. -/
theorem doV_okk {v : Vx} {m : Mu} (h : v.ok) (hm : m.ok) (hl : v.es.length < 8796093022208) : ∀ y ∈ (doV v m).1, y.ok := by
  intro y hy
  unfold doV at hy
  split at hy
  · cases hy
  · split at hy
    · split at hy
      · rw [List.mem_singleton] at hy
        subst hy
        refine ⟨h.id, h.val, fun e he => ?_, by simp only [List.length_append, List.length_take, List.length_drop]; omega⟩
        rcases List.mem_append.1 he with he | he
        · exact h.es e (List.mem_of_mem_take he)
        · exact h.es e (List.mem_of_mem_drop he)
      · rw [List.mem_singleton] at hy; subst hy; exact h
    · split at hy
      · split at hy
        · rw [List.mem_singleton] at hy; subst hy; exact h
        · rw [List.mem_singleton] at hy
          subst hy
          refine ⟨h.id, h.val, fun e he => ?_, by simp only [List.length_append, List.length_take, List.length_cons, List.length_drop]; omega⟩
          rcases List.mem_append.1 he with he | he
          · exact h.es e (List.mem_of_mem_take he)
          · rcases List.mem_cons.1 he with rfl | he
            · exact ⟨hm.t, hm.v⟩
            · exact h.es e (List.mem_of_mem_drop he)
      · rw [List.mem_singleton] at hy; subst hy; exact h
theorem doG_okk {G : List Vx} {m : Mu} (hf : Fine G) (h : ∀ v ∈ G, v.ok) (hm : m.ok) (hl : ∀ v ∈ G, v.es.length < 8796093022208) : ∀ y ∈ (doG G m).1, y.ok := by
  intro y hy
  rcases doG_form hf m with ⟨A, v, B, h1, h2, h3, h4, e⟩ | ⟨A, B, h1, h3, h4, e⟩
  · rw [e] at hy
    rw [h1] at h hl
    rcases List.mem_append.1 hy with hy | hy
    · exact h y (by simp [hy])
    · rcases List.mem_append.1 hy with hy | hy
      · exact doV_okk (h v (by simp)) hm (hl v (by simp)) y hy
      · exact h y (by simp [hy])
  · rw [e] at hy
    rw [h1] at h
    rcases List.mem_append.1 hy with hy | hy
    · exact h y (by simp [hy])
    · rcases List.mem_append.1 hy with hy | hy
      · unfold noV at hy
        split at hy
        · rw [List.mem_singleton] at hy
          subst hy
          exact ⟨hm.i, hm.v, fun e he => (by cases he), by simp⟩
        · cases hy
      · exact h y (by simp [hy])
theorem runU_okk {s : List Vx × Nat} {n : Nat} (hf : Fine s.1) (hu : Up n s.1) (h : ∀ v ∈ s.1, v.ok) : ∀ (l : List Mu), (∀ m ∈ l, m.ok) → n + l.length < 8796093022208 → ∀ y ∈ (runU s l).1, y.ok := by
  intro l
  induction l generalizing s n with
  | nil => exact fun _ _ => h
  | cons m l ih =>
    intro hm hl
    rw [List.length_cons] at hl
    exact ih (s := stepU s m) (doG_fine hf m) (doG_up hf m hu) (doG_okk hf h (hm m (by simp)) (fun v hv => by have := hu.2 v hv; omega)) (fun x hx => hm x (by simp [hx])) (by omega)
theorem appG_okk {G : List Vx} {l : List Mu} {n : Nat} (hf : Fine G) (hu : Up n G) (h : ∀ v ∈ G, v.ok) (hm : ∀ m ∈ l, m.ok) (hl : n + l.length < 8796093022208) : ∀ y ∈ (appG G l).1, y.ok :=
  runU_okk (s := (G, 0)) hf hu h (thatC l) (fun m hx => hm m (thatC_mem hx)) (by have := thatC_len l; omega)
end Go.Proofs.Ythnhmhjcpdomcaa
