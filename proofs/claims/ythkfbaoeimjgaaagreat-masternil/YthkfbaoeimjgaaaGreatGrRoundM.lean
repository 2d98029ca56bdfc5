import Derived.Test.YthkfbaoeimjgaaaGreatGrDecodeM
import Derived.Test.YthkfbaoeimjgaaaGreatRdRoundM
/- Plain mathematics: a graph's bytes are read as it, and nothing but a graph's bytes is read as one. -/
namespace Go.Proofs.YthkfbaoeimjgaaaGreat
open Go.RowKit
theorem rdEs_enc {s : ByteArray} : ∀ (L : List Ed) (a c : List UInt8), s.data.toList = a ++ (L.flatMap edB ++ c) → (∀ e ∈ L, e.ok) → rdEs s L.length a.length 0 = (L, (a ++ L.flatMap edB).length, 0) := by
  intro L
  induction L with
  | nil => intro a c _ _; simp [rdEs]
  | cons e L ih =>
    intro a c h hok
    have he := hok e (by simp)
    have h1 : s.data.toList = a ++ (sgB e.t ++ (sgB e.w ++ (L.flatMap edB ++ c))) := by rw [h]; simp [edB]
    have h2 : s.data.toList = (a ++ sgB e.t) ++ (sgB e.w ++ (L.flatMap edB ++ c)) := by rw [h1]; simp
    have h3 : s.data.toList = (a ++ sgB e.t ++ sgB e.w) ++ (L.flatMap edB ++ c) := by rw [h1]; simp
    have q1 := num_at h1 (fold_lt he.t)
    have q2 := num_at h2 (fold_lt he.w)
    rw [List.length_cons, rdEs_go q1 q2]
    have := ih (a ++ sgB e.t ++ sgB e.w) c h3 (fun x hx => hok x (by simp [hx]))
    rw [show (a ++ sgB e.t ++ numB (foldN e.w).toNat) = a ++ sgB e.t ++ sgB e.w from rfl, this, sg_back he.t, sg_back he.w]
    simp [edB]
theorem rdV_enc {s : ByteArray} {v : Vx} {a c : List UInt8} (h : s.data.toList = a ++ (vxB v ++ c)) (hok : v.ok) (hl : v.es.length ≤ 2048) : rdV s a.length 0 = (v, (a ++ vxB v).length, 0) := by
  have h1 : s.data.toList = a ++ (sgB v.id ++ (sgB v.val ++ (numB v.es.length ++ (v.es.flatMap edB ++ c)))) := by rw [h]; simp [vxB]
  have h2 : s.data.toList = (a ++ sgB v.id) ++ (sgB v.val ++ (numB v.es.length ++ (v.es.flatMap edB ++ c))) := by rw [h1]; simp
  have h3 : s.data.toList = (a ++ sgB v.id ++ sgB v.val) ++ (numB v.es.length ++ (v.es.flatMap edB ++ c)) := by rw [h1]; simp
  have h4 : s.data.toList = (a ++ sgB v.id ++ sgB v.val ++ numB v.es.length) ++ (v.es.flatMap edB ++ c) := by rw [h1]; simp
  have q1 := num_at h1 (fold_lt hok.id)
  have q2 := num_at h2 (fold_lt hok.val)
  have q3 := count_at (most := 2048) h3 hl (by decide)
  have q4 := rdEs_enc v.es _ c h4 hok.es
  unfold rdV
  simp only [q1]
  rw [show (a ++ numB (foldN v.id).toNat) = a ++ sgB v.id from rfl]
  simp only [q2]
  rw [show (a ++ sgB v.id ++ numB (foldN v.val).toNat) = a ++ sgB v.id ++ sgB v.val from rfl, show (2048 : Int) = ((2048 : Nat) : Int) from rfl]
  simp only [q3, q4, sg_back hok.id, sg_back hok.val]
  simp [vxB]
theorem rdVs_enc {s : ByteArray} : ∀ (G : List Vx) (a c : List UInt8), s.data.toList = a ++ (G.flatMap vxB ++ c) → (∀ v ∈ G, v.ok ∧ v.es.length ≤ 2048) → rdVs s G.length a.length 0 = (G, (a ++ G.flatMap vxB).length, 0) := by
  intro G
  induction G with
  | nil => intro a c _ _; simp [rdVs]
  | cons v G ih =>
    intro a c h hok
    have hv := hok v (by simp)
    have h1 : s.data.toList = a ++ (vxB v ++ (G.flatMap vxB ++ c)) := by rw [h]; simp
    have h2 : s.data.toList = (a ++ vxB v) ++ (G.flatMap vxB ++ c) := by rw [h1]; simp
    rw [List.length_cons, rdVs_go (rdV_enc h1 hv.1 hv.2), ih (a ++ vxB v) c h2 (fun x hx => hok x (by simp [hx]))]
    simp
theorem rdG_enc {s : ByteArray} {G : List Vx} {a c : List UInt8} (h : s.data.toList = a ++ (grB G ++ c)) (hok : ∀ v ∈ G, v.ok) (hc : chk G = 0) : rdG s a.length 0 = (G, (a ++ grB G).length, 0) := by
  have h1 : s.data.toList = a ++ (numB G.length ++ (G.flatMap vxB ++ c)) := by rw [h]; simp [grB]
  have h2 : s.data.toList = (a ++ numB G.length) ++ (G.flatMap vxB ++ c) := by rw [h1]; simp
  have hr := room_ok hc hok
  have q1 := count_at (most := 256) h1 (chk_ok hc).1 (by decide)
  have q2 := rdVs_enc G _ c h2 (fun v hv => ⟨hok v hv, hr.2 v hv⟩)
  have hg : rdGs s a.length 0 = (G, (a ++ grB G).length, 0) := by
    unfold rdGs
    rw [show (256 : Int) = ((256 : Nat) : Int) from rfl]
    simp only [q1, q2]
    simp [grB]
  exact rdG_ok hg hc
end Go.Proofs.YthkfbaoeimjgaaaGreat
