import Derived.Test.YtidghoipmggklaaGreatGrDataM
import Derived.Test.YtidghoipmggklaaGreatFoldWM
/- A graph's bytes, as plain lists. -/
namespace Go.Proofs.YtidghoipmggklaaGreat
open Go.RowKit
def sgB (k : Int) : List UInt8 := numB (foldN k).toNat
def edB (e : Ed) : List UInt8 := sgB e.t ++ sgB e.w
def vxB (v : Vx) : List UInt8 := sgB v.id ++ sgB v.val ++ numB v.es.length ++ v.es.flatMap edB
def grB (G : List Vx) : List UInt8 := numB G.length ++ G.flatMap vxB
theorem fold_lt {k : Int} (h : I64 k) : (foldN k).toNat < 18446744073709551616 := by have := fold_bd k h.1 h.2; omega
theorem sgB_len {k : Int} (h : I64 k) : (sgB k).length ≤ 10 := numB_len10 (fold_lt h)
theorem edB_len {e : Ed} (h : e.ok) : (edB e).length ≤ 20 := by
  unfold edB
  have := sgB_len h.t
  have := sgB_len h.w
  rw [List.length_append]; omega
theorem edsB_len (L : List Ed) (h : ∀ e ∈ L, e.ok) : (L.flatMap edB).length ≤ 20 * L.length := by
  induction L with
  | nil => simp
  | cons e L ih =>
    have h1 := edB_len (h e (by simp))
    have h2 := ih (fun x hx => h x (by simp [hx]))
    rw [List.flatMap_cons, List.length_append, List.length_cons]; omega
theorem vxB_len {v : Vx} (h : v.ok) : (vxB v).length ≤ 30 + 20 * v.es.length := by
  unfold vxB
  have h1 := sgB_len h.id
  have h2 := sgB_len h.val
  have h3 := numB_len10 (n := v.es.length) (by have := h.len; omega)
  have h4 := edsB_len v.es h.es
  simp only [List.length_append]; omega
theorem eds_snoc (L : List Ed) (k : Nat) (h : k < L.length) : (L.take (k + 1)).flatMap edB = (L.take k).flatMap edB ++ edB L[k] := by
  rw [List.take_succ_eq_append_getElem h, List.flatMap_append]; simp
theorem vxs_snoc (G : List Vx) (k : Nat) (h : k < G.length) : (G.take (k + 1)).flatMap vxB = (G.take k).flatMap vxB ++ vxB G[k] := by
  rw [List.take_succ_eq_append_getElem h, List.flatMap_append]; simp
/-- How many bytes at most. -/
def room (G : List Vx) : Nat := (G.map fun v => 30 + 20 * v.es.length).sum
theorem vxsB_len (G : List Vx) (h : ∀ v ∈ G, v.ok) : (G.flatMap vxB).length ≤ room G := by
  induction G with
  | nil => simp [room]
  | cons v G ih =>
    have h1 := vxB_len (h v (by simp))
    have h2 := ih (fun x hx => h x (by simp [hx]))
    unfold room at *
    rw [List.flatMap_cons, List.length_append, List.map_cons, List.sum_cons]; omega
theorem room_at {G : List Vx} {k : Nat} (h : k < G.length) : room (G.take k) + (30 + 20 * G[k].es.length) ≤ room G := by
  have : room G = room (G.take k) + ((30 + 20 * G[k].es.length) + room (G.drop (k + 1))) := by
    conv => lhs; rw [← List.take_append_drop k G]
    unfold room
    rw [List.drop_eq_getElem_cons h, List.map_append, List.sum_append, List.map_cons, List.sum_cons]
  omega
theorem sumE_real (G : List Vx) (hl : G.length ≤ 256) (h : ∀ v ∈ G, v.es.length ≤ 8796093022208) : sumE G = ((G.map fun v => v.es.length).sum : Nat) ∧ (G.map fun v => v.es.length).sum ≤ G.length * 8796093022208 := by
  have key : ∀ (G : List Vx) (a : Nat), (∀ v ∈ G, v.es.length ≤ 8796093022208) → a + G.length * 8796093022208 ≤ 9223372036854775807 → G.foldl (fun a v => wrap64 (a + v.es.length)) (a : Int) = ((a + (G.map fun v => v.es.length).sum : Nat) : Int) ∧ (G.map fun v => v.es.length).sum ≤ G.length * 8796093022208 := by
    intro G
    induction G with
    | nil => intro a _ _; simp
    | cons v G ih =>
      intro a h hb
      have h1 := h v (by simp)
      rw [List.length_cons, Nat.add_mul] at hb
      have e : wrap64 ((a : Int) + v.es.length) = ((a + v.es.length : Nat) : Int) := by unfold wrap64; omega
      have h2 := ih (a + v.es.length) (fun x hx => h x (by simp [hx])) (by omega)
      rw [List.foldl_cons, e, h2.1, List.map_cons, List.sum_cons, List.length_cons, Nat.add_mul]
      exact ⟨by omega, by omega⟩
  have := key G 0 h (by omega)
  unfold sumE
  simpa using this
theorem room_real (G : List Vx) : room G = 30 * G.length + 20 * (G.map fun v => v.es.length).sum := by
  induction G with
  | nil => rfl
  | cons v G ih => unfold room at *; rw [List.map_cons, List.sum_cons, ih, List.length_cons, List.map_cons, List.sum_cons]; omega
theorem chk_ok {G : List Vx} (h : chk G = 0) : G.length ≤ 256 ∧ Rise (ids G) ∧ sumE G ≤ 2048 ∧ risesE G = true ∧ thereE G = true := by
  unfold chk at h
  split at h
  · omega
  · rename_i h1
    split at h
    · omega
    · rename_i h2
      refine ⟨by omega, (riseB_iff _).1 ?_, by omega, ?_, ?_⟩
      · cases hr : riseB (ids G) with
        | true => rfl
        | false => exact absurd (Or.inr hr) h1
      · cases hr : risesE G with
        | true => rfl
        | false => exact absurd (Or.inr (Or.inl hr)) h2
      · cases hr : thereE G with
        | true => rfl
        | false => exact absurd (Or.inr (Or.inr hr)) h2
theorem mem_sum {G : List Vx} {v : Vx} (h : v ∈ G) : v.es.length ≤ (G.map fun v => v.es.length).sum := by
  induction G with
  | nil => cases h
  | cons u G ih =>
    rw [List.map_cons, List.sum_cons]
    rcases List.mem_cons.1 h with rfl | h
    · omega
    · have := ih h; omega
theorem room_ok {G : List Vx} (h : chk G = 0) (hok : ∀ v ∈ G, v.ok) : room G ≤ 48640 ∧ ∀ v ∈ G, v.es.length ≤ 2048 := by
  obtain ⟨h1, _, h2, _⟩ := chk_ok h
  have h3 := sumE_real G h1 (fun v hv => (hok v hv).len)
  rw [room_real]
  rw [h3.1] at h2
  refine ⟨by omega, fun v hv => ?_⟩
  have := mem_sum hv
  omega
end Go.Proofs.YtidghoipmggklaaGreat
