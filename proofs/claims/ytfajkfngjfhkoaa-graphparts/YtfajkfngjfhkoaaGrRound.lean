/- Plain mathematics: a graph's bytes are read as it, and nothing but a graph's bytes is read as one. -/
import Derived.Test.YtfajkfngjfhkoaaGrDecode
import Derived.Test.YtfajkfngjfhkoaaRdRound
namespace Go.Proofs.Ytfajkfngjfhkoaa
open Go.RowKit
theorem rdEs_enc {s : ByteArray} : ∀ (L : List Ed) (a c : List UInt8), s.data.toList = a ++ (L.flatMap edB ++ c) → (∀ e ∈ L, e.ok) → rdEs s L.length a.length 0 = (L, (a ++ L.flatMap edB).length, 0) := by
  intro L
  induction L with
  | nil => intro a c _ _; simp [rdEs]
  | cons e L ih =>
    intro a c h hok
    have he := hok e (by simp)
    have h1 : s.data.toList = a ++ (sgB e.t ++ (sgB e.w ++ (L.flatMap edB ++ c))) := by rw [h]; simp [edB]
    have h2 : s.data.toList = (a ++ sgB e.t) ++ (sgB e.w ++ (L.flatMap edB ++ c)) := by rw [h1]; simp
    have h3 : s.data.toList = (a ++ sgB e.t ++ sgB e.w) ++ (L.flatMap edB ++ c) := by rw [h1]; simp
    have q1 := num_at h1 (fold_lt he.t)
    have q2 := num_at h2 (fold_lt he.w)
    rw [List.length_cons, rdEs_go q1 q2]
    have := ih (a ++ sgB e.t ++ sgB e.w) c h3 (fun x hx => hok x (by simp [hx]))
    rw [show (a ++ sgB e.t ++ numB (foldN e.w).toNat) = a ++ sgB e.t ++ sgB e.w from rfl, this, sg_back he.t, sg_back he.w]
    simp [edB]
theorem rdV_enc {s : ByteArray} {v : Vx} {a c : List UInt8} (h : s.data.toList = a ++ (vxB v ++ c)) (hok : v.ok) (hl : v.es.length ≤ 2048) : rdV s a.length 0 = (v, (a ++ vxB v).length, 0) := by
  have h1 : s.data.toList = a ++ (sgB v.id ++ (sgB v.val ++ (numB v.es.length ++ (v.es.flatMap edB ++ c)))) := by rw [h]; simp [vxB]
  have h2 : s.data.toList = (a ++ sgB v.id) ++ (sgB v.val ++ (numB v.es.length ++ (v.es.flatMap edB ++ c))) := by rw [h1]; simp
  have h3 : s.data.toList = (a ++ sgB v.id ++ sgB v.val) ++ (numB v.es.length ++ (v.es.flatMap edB ++ c)) := by rw [h1]; simp
  have h4 : s.data.toList = (a ++ sgB v.id ++ sgB v.val ++ numB v.es.length) ++ (v.es.flatMap edB ++ c) := by rw [h1]; simp
  have q1 := num_at h1 (fold_lt hok.id)
  have q2 := num_at h2 (fold_lt hok.val)
  have q3 := count_at (most := 2048) h3 hl (by decide)
  have q4 := rdEs_enc v.es _ c h4 hok.es
  unfold rdV
  simp only [q1]
  rw [show (a ++ numB (foldN v.id).toNat) = a ++ sgB v.id from rfl]
  simp only [q2]
  rw [show (a ++ sgB v.id ++ numB (foldN v.val).toNat) = a ++ sgB v.id ++ sgB v.val from rfl, show (2048 : Int) = ((2048 : Nat) : Int) from rfl]
  simp only [q3, q4, sg_back hok.id, sg_back hok.val]
  simp [vxB]
theorem rdVs_enc {s : ByteArray} : ∀ (G : List Vx) (a c : List UInt8), s.data.toList = a ++ (G.flatMap vxB ++ c) → (∀ v ∈ G, v.ok ∧ v.es.length ≤ 2048) → rdVs s G.length a.length 0 = (G, (a ++ G.flatMap vxB).length, 0) := by
  intro G
  induction G with
  | nil => intro a c _ _; simp [rdVs]
  | cons v G ih =>
    intro a c h hok
    have hv := hok v (by simp)
    have h1 : s.data.toList = a ++ (vxB v ++ (G.flatMap vxB ++ c)) := by rw [h]; simp
    have h2 : s.data.toList = (a ++ vxB v) ++ (G.flatMap vxB ++ c) := by rw [h1]; simp
    rw [List.length_cons, rdVs_go (rdV_enc h1 hv.1 hv.2), ih (a ++ vxB v) c h2 (fun x hx => hok x (by simp [hx]))]
    simp
theorem rdG_enc {s : ByteArray} {G : List Vx} {a c : List UInt8} (h : s.data.toList = a ++ (grB G ++ c)) (hok : ∀ v ∈ G, v.ok) (hc : chk G = 0) : rdG s a.length 0 = (G, (a ++ grB G).length, 0) := by
  have h1 : s.data.toList = a ++ (numB G.length ++ (G.flatMap vxB ++ c)) := by rw [h]; simp [grB]
  have h2 : s.data.toList = (a ++ numB G.length) ++ (G.flatMap vxB ++ c) := by rw [h1]; simp
  have hr := room_ok hc hok
  have q1 := count_at (most := 256) h1 (chk_ok hc).1 (by decide)
  have q2 := rdVs_enc G _ c h2 (fun v hv => ⟨hok v hv, hr.2 v hv⟩)
  have hg : rdGs s a.length 0 = (G, (a ++ grB G).length, 0) := by
    unfold rdGs
    rw [show (256 : Int) = ((256 : Nat) : Int) from rfl]
    simp only [q1, q2]
    simp [grB]
  exact rdG_ok hg hc
theorem dec_enc {G : List Vx} (hok : ∀ v ∈ G, v.ok) (hc : chk G = 0) : dec (str (grB G)) = (G, 0) := by
  have h := rdG_enc (s := str (grB G)) (G := G) (a := []) (c := []) (by rw [str_list]; simp) hok hc
  unfold dec
  rw [show ([] : List UInt8).length = 0 from rfl] at h
  rw [h]
  have : rdEnd (str (grB G)) ([] ++ grB G).length 0 = 0 := rdEnd_ge 0 (by simp [str_size])
  simp only [this, if_true]

theorem rdEs_only {s : ByteArray} : ∀ (n a : Nat) (e : Int) (L : List Ed) (a' : Nat), a ≤ s.size → rdEs s n a e = (L, a', 0) → s.data.toList.drop a = L.flatMap edB ++ s.data.toList.drop a' ∧ L.length = n := by
  intro n
  induction n with
  | zero =>
    intro a e L a' _ h
    simp only [rdEs, Prod.mk.injEq] at h
    obtain ⟨rfl, rfl, _⟩ := h
    exact ⟨rfl, rfl⟩
  | succ n ih =>
    intro a e L a' ha h
    obtain ⟨⟨t, a1, e1⟩, h1⟩ : ∃ q, rdNum s a e = q := ⟨_, rfl⟩
    obtain ⟨⟨w, a2, e2⟩, h2⟩ : ∃ q, rdNum s a1 e1 = q := ⟨_, rfl⟩
    have g1 := rdNum_to ha h1
    have g2 := rdNum_to g1.1 h2
    by_cases hz : e2 = 0
    · subst hz
      obtain rfl := g2.2.2 rfl
      rw [rdEs_go h1 h2] at h
      obtain ⟨⟨L', a3, e3⟩, h3⟩ : ∃ q, rdEs s n a2 0 = q := ⟨_, rfl⟩
      rw [h3] at h
      simp only [Prod.mk.injEq] at h
      obtain ⟨rfl, rfl, rfl⟩ := h
      have := ih a2 0 L' a3 g2.1 h3
      refine ⟨?_, by simp [this.2]⟩
      rw [rdNum_only ha h1, rdNum_only g1.1 h2, this.1]
      simp [edB, sg_num]
    · rw [rdEs_bad h1 h2 hz] at h
      simp only [Prod.mk.injEq] at h
      exact absurd h.2.2 hz
theorem rdV_parts (s : ByteArray) (a : Nat) (e : Int) (ha : a ≤ s.size) : ∃ t a1 e1 u a2 e2 n a3 e3, rdNum s a e = (t, a1, e1) ∧ rdNum s a1 e1 = (u, a2, e2) ∧ rdCount s a2 e2 (2048 : Nat) = (n, a3, e3) ∧ a1 ≤ s.size ∧ a2 ≤ s.size ∧ a3 ≤ s.size ∧ (e2 = 0 → e1 = 0) ∧ (e3 = 0 → e2 = 0) ∧ rdV s a e = (⟨unfoldN t, unfoldN u, (rdEs s n a3 e3).1⟩, (rdEs s n a3 e3).2) ∧ (0 < n → e3 = 0) := by
  obtain ⟨⟨t, a1, e1⟩, h1⟩ : ∃ q, rdNum s a e = q := ⟨_, rfl⟩
  obtain ⟨⟨w, a2, e2⟩, h2⟩ : ∃ q, rdNum s a1 e1 = q := ⟨_, rfl⟩
  obtain ⟨⟨n, a3, e3⟩, h3⟩ : ∃ q, rdCount s a2 e2 (2048 : Nat) = q := ⟨_, rfl⟩
  have g1 := rdNum_to ha h1
  have g2 := rdNum_to g1.1 h2
  have g3 := rdCount_to g2.1 h3
  refine ⟨t, a1, e1, w, a2, e2, n, a3, e3, h1, h2, h3, g1.1, g2.1, g3.1, g2.2.2, g3.2.2.1, ?_, g3.2.2.2⟩
  unfold rdV; simp only [h1, h2]; rw [show (2048 : Int) = ((2048 : Nat) : Int) from rfl, h3]
theorem rdEs_e {s : ByteArray} {n a : Nat} {e : Int} (h : 0 < n → e = 0) (hz : (rdEs s n a e).2.2 = 0) : e = 0 := by
  cases n with
  | zero => exact hz
  | succ n => exact h (by omega)
theorem rdV_only {s : ByteArray} {a a' : Nat} {e : Int} {v : Vx} (ha : a ≤ s.size) (h : rdV s a e = (v, a', 0)) : s.data.toList.drop a = vxB v ++ s.data.toList.drop a' := by
  obtain ⟨t, a1, e1, u, a2, e2, n, a3, e3, h1, h2, h3, g1, g2, g3, i1, i2, hv, hn⟩ := rdV_parts s a e ha
  rw [hv] at h
  simp only [Prod.mk.injEq] at h
  obtain ⟨rfl, h4⟩ := h
  obtain rfl : e3 = 0 := rdEs_e (s := s) (n := n) (a := a3) hn (by rw [h4])
  obtain rfl := i2 rfl
  obtain rfl := i1 rfl
  have h5 := rdEs_only n a3 0 (rdEs s n a3 0).1 a' g3 (by rw [← h4])
  rw [rdNum_only ha h1, rdNum_only g1 h2, rdCount_only g2 h3, h5.1]
  unfold vxB
  simp [sg_num, h5.2]
theorem rdVs_only {s : ByteArray} : ∀ (n a : Nat) (e : Int) (G : List Vx) (a' : Nat), a ≤ s.size → rdVs s n a e = (G, a', 0) → s.data.toList.drop a = G.flatMap vxB ++ s.data.toList.drop a' ∧ G.length = n := by
  intro n
  induction n with
  | zero =>
    intro a e L a' _ h
    simp only [rdVs, Prod.mk.injEq] at h
    obtain ⟨rfl, rfl, _⟩ := h
    exact ⟨rfl, rfl⟩
  | succ n ih =>
    intro a e L a' ha h
    have g := rdV_to (e := e) ha
    unfold rdVs at h
    split at h
    · rename_i hz
      obtain ⟨⟨L', a3, e3⟩, h3⟩ : ∃ q, rdVs s n (rdV s a e).2.1 0 = q := ⟨_, rfl⟩
      rw [h3] at h
      simp only [Prod.mk.injEq] at h
      obtain ⟨rfl, rfl, rfl⟩ := h
      have := ih _ 0 L' a3 g.1 h3
      refine ⟨?_, by simp [this.2]⟩
      rw [rdV_only ha (v := (rdV s a e).1) (a' := (rdV s a e).2.1) (by rw [← hz]), this.1]
      simp
    · rename_i hz
      simp only [Prod.mk.injEq] at h
      rw [h.2] at hz
      exact absurd rfl hz
/-- What is read as a graph are just its bytes. -/
theorem dec_only {s : ByteArray} {G : List Vx} (h : dec s = (G, 0)) : s.data.toList = grB G ∧ chk G = 0 ∧ ∀ v ∈ G, v.ok := by
  have hto := rdG_to (s := s) (a := 0) (e := 0) (Nat.zero_le _)
  unfold dec at h
  obtain ⟨⟨G', x, y⟩, hq⟩ : ∃ q, rdG s 0 0 = q := ⟨_, rfl⟩
  rw [hq] at h hto
  dsimp only at h
  split at h
  · rename_i hz
    simp only [Prod.mk.injEq, and_true] at h
    subst h
    have hy : y = 0 ∧ ¬ x < s.size := by
      unfold rdEnd at hz
      split at hz
      · omega
      · rename_i hn; exact ⟨hz, fun hx => hn ⟨hz, hx⟩⟩
    obtain ⟨rfl, hx⟩ := hy
    obtain ⟨⟨n, a1, e1⟩, h1⟩ : ∃ q, rdCount s 0 0 (256 : Nat) = q := ⟨_, rfl⟩
    have g1 := rdCount_to (Nat.zero_le _) h1
    have hg : rdGs s 0 0 = rdVs s n a1 e1 := by unfold rdGs; rw [show (256 : Int) = ((256 : Nat) : Int) from rfl, h1]
    obtain ⟨⟨G2, x2, y2⟩, h2⟩ : ∃ q, rdVs s n a1 e1 = q := ⟨_, rfl⟩
    rw [h2] at hg
    have hy2 : y2 = 0 := by
      by_cases hy : y2 = 0
      · exact hy
      · rw [rdG_bad hg hy] at hq
        simp only [Prod.mk.injEq] at hq
        exact hq.2.2
    subst hy2
    have hc : chk G2 = 0 := by
      by_cases hc : chk G2 = 0
      · exact hc
      · rw [rdG_chk hg hc] at hq
        simp only [Prod.mk.injEq] at hq
        exact hq.2.2
    rw [rdG_ok hg hc] at hq
    simp only [Prod.mk.injEq, and_true] at hq
    obtain ⟨rfl, rfl⟩ := hq
    have he1 : e1 = 0 := by
      cases n with
      | zero => simp only [rdVs, Prod.mk.injEq] at h2; exact h2.2.2
      | succ n => exact g1.2.2.2 (by omega)
    subst he1
    have h3 := rdVs_only n a1 0 G2 x2 g1.1 h2
    have h4 := rdCount_only (Nat.zero_le _) h1
    rw [h3.1, List.drop_zero, List.drop_eq_nil_of_le (i := x2) (by simp; omega), List.append_nil] at h4
    refine ⟨?_, hc, hto.2.2⟩
    rw [h4]
    unfold grB
    rw [h3.2]
  · rename_i hz
    simp only [Prod.mk.injEq] at h
    exact absurd h.2 hz
end Go.Proofs.Ytfajkfngjfhkoaa
