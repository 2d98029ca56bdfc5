/- slices.Delete of one element, at edges and at vertices: in place. -/
import Derived.Test.YthnhmhjcpdomcaaMuRow
import Derived.Test.YthnhmhjcpdomcaaChecked
import Derived.Deep.RegionLaw
import Derived.WalkKit
namespace Go.Proofs.Ythnhmhjcpdomcaa
open Go.RowKit
/-- What stands behind a deletion. -/
theorem del_list {cur : List Value} {n i k : Nat} {z : List Value} (hi : i < n) (hc : n * k ≤ cur.length) (hz : z.length = k) :
    (over (over cur (i * k) ((cur.take (n * k)).drop ((i + 1) * k))) ((n - 1) * k) z).take ((n - 1) * k) = (cur.take (n * k)).take (i * k) ++ (cur.take (n * k)).drop ((i + 1) * k) := by
  have e1 : (i + 1) * k ≤ n * k := Nat.mul_le_mul_right k hi
  have e2 : (i + 1) * k = i * k + k := Nat.succ_mul i k
  have e3 : (n - 1) * k = n * k - k := by rw [Nat.sub_mul, Nat.one_mul]
  have hl : ((cur.take (n * k)).drop ((i + 1) * k)).length = n * k - (i + 1) * k := by rw [List.length_drop, List.length_take]; omega
  rw [over_take_lo _ _ _ (Nat.le_refl _) (by rw [over_len _ _ _ (by rw [hl]; omega)]; omega)]
  have h5 : (n - 1) * k = i * k + ((cur.take (n * k)).drop ((i + 1) * k)).length := by rw [hl]; omega
  rw [h5, over_take_at _ _ _ (by omega), List.take_take, Nat.min_eq_left (by omega)]

theorem mInfoE : (Try.prog.info? 81).map (fun i => (i.zero, i.size, i.bytes)) = some (some (.agg #[.int .i64 0, .int .i64 0]), 2, 16) := by kernel_rfl
set_option maxHeartbeats 4000000 in
set_option maxRecDepth 100000 in
theorem delE_blk {w : World} {base g cap : Nat} {cur : List Value} (h : Blk w base 81 2 g cap cur) (n i j : Nat) (h1 : ∀ u ∈ cur.take (n * 2), u.oneCell' = true) (hj : j = i + 1) (hi : i < n) (hn : n ≤ cap) :
    Calls Try.prog 100 #[.slice (some ⟨g, 0, none⟩) n cap, .int .i64 i, .int .i64 j] w fun e w' => e = .returned (.slice (some ⟨g, 0, none⟩) (n - 1) cap) ∧ w' = (w.drew.setCells g (i * 2) ((cur.take (n * 2)).drop ((i + 1) * 2))).setCells g ((n - 1) * 2) [.int .i64 0, .int .i64 0] := by
  obtain ⟨i0, hi0, hz0, hzs, hzb⟩ := info_parts mInfoE
  have hzc : (Builtin.zeroCells (.agg #[.int .i64 0, .int .i64 0] : Value).cells 1).toList = [.int .i64 0, .int .i64 0] := by kernel_rfl
  have hmax : cap ≤ 9223372036854775807 := by have := h.max; unfold maxLen at this; omega
  have hnk : n * 2 ≤ cap * 2 := Nat.mul_le_mul_right _ hn
  have hlc : cur.length = cap * 2 := h.size
  obtain ⟨news, hnews⟩ : ∃ news, news = (cur.take (n * 2)).drop ((i + 1) * 2) := ⟨_, rfl⟩
  have hlen : news.length = (n - (i + 1)) * 2 := by rw [hnews, List.length_drop, List.length_take]; omega
  have hget : ∀ t u, news[t]? = some u → cur[(i + 1) * 2 + t]? = some u := by
    intro t u hu
    rw [hnews, List.getElem?_drop, List.getElem?_take] at hu
    split at hu
    · exact hu
    · cases hu
  obtain ⟨A, hA, hsrc⟩ : ∃ A : Addr, (if cap = j then some (⟨g, 0, none⟩ : Addr) else some ⟨g, j * 2, none⟩) = some A ∧ Hid (∀ t u, news[t]? = some u → w.drew.cell? (A.add t) = some u) := by
    by_cases hc : cap = j
    · refine ⟨⟨g, 0, none⟩, by simp [hc], fun t u hu => ?_⟩
      have h0 : news.length = 0 := by rw [hlen]; omega
      rw [List.length_eq_zero_iff.1 h0] at hu
      simp at hu
    · refine ⟨⟨g, j * 2, none⟩, by simp [hc], fun t u hu => ?_⟩
      rw [Addr.add_lit, hj]
      exact (h.cell _).trans (hget t u hu)
  have s1 : Hid (news.length = (n - j) * 2) := by show _ = _; rw [hj]; exact hlen
  have s2 : Hid (∀ u ∈ news, u.oneCell' = true) := by
    intro u hu
    rw [hnews] at hu
    exact h1 u (List.mem_of_mem_drop hu)
  have s3 : Hid (∀ t, t < news.length → (w.drew.cell? ⟨g, 0 + i * 2 + t, none⟩).isSome = true ∧ w.drew.frozen? ⟨g, 0 + i * 2 + t, none⟩ = false) := by
    intro t ht
    rw [hlen] at ht
    exact ⟨h.there (by omega), h.soft _⟩
  have hB1 := h.drew.set (i * 2) news (by rw [hlen]; omega)
  obtain ⟨W1, hW1⟩ : ∃ W1, W1 = w.drew.setCells g (i * 2) news := ⟨_, rfl⟩
  rw [← hW1] at hB1
  have hcl : ∀ ty, (Builtin.clear_ #[82] ty #[.slice (some ⟨g, (n - 1) * 2, none⟩) (n - (n - 1)) (cap - (n - 1))]).run Try.prog W1 = .ok (.tuple #[]) (W1.setCells g ((n - 1) * 2) [.int .i64 0, .int .i64 0]) :=
    fun ty => by
      rw [← hzc, show n - (n - 1) = 1 by omega]
      exact run_clear_k W1 _ _ ty (.agg #[.int .i64 0, .int .i64 0]) Try.underlying82 Try.zeroValue81 (by decide) (by intro v hv; simp [Value.cells] at hv; rcases hv with rfl | rfl <;> rfl) g ((n - 1) * 2) 1 (cap - (n - 1)) (by decide) (fun j hj => hB1.there (by simp [Value.cells] at hj; omega)) (fun j hj => hB1.soft _)
  have hW : Hid (W1 = w.drew.setCells g (0 + i * 2) news) := by show _ = _; rw [Nat.zero_add]; exact hW1
  have HE : Hid (W1 = w.drew.setCells g (i * 2) news) := hW1
  have hin : i ≤ cap := by omega
  have hjc : j ≤ cap := by omega
  have hin2 : j ≤ n := by omega
  have hij : i ≤ j := by omega
  have hne : ¬ i = j := by omega
  have hsum : i + (n - j) = n - 1 := by omega
  have HJ : Hid (j = i + 1) := hj
  rw [← hnews]
  clear hW1 hB1 hget hnews hlen hlc hnk h h1 hj hzc
  go_enter Try.func100, Try.ntmps100
  go_wp2_with fail
  go_region_law (refine step_append_room rfl (.tmp 22) (.tmp 25) 82 rfl 81 i0 2 Try.underlying82 hi0 hzs g 0 i cap (by simp [Act.eval, Act.put]) A (n - j) (cap - j) news (by simp [Act.eval, Act.put]) s1.out hsrc.out s2.out (by omega) s3.out ?_; rw [← hW.out])
  go_wp2
  go_ret
  exact ⟨rfl, by rw [HE.out]⟩
/-- slices.Delete of one element of a row of one's own. -/
theorem delE_any {w : World} {base : Nat} {v : Value} {n : Nat} {xs : List Value} (h : w.ownsRow base 81 2 v n xs) (h1 : ∀ u ∈ xs, u.oneCell' = true) (i j : Nat) (hj : j = i + 1) (hi : i < n) :
    Calls Try.prog 100 #[v, .int .i64 i, .int .i64 j] w fun e w' => ∃ v', e = .returned v' ∧ v'.ownBlock = v.ownBlock ∧ w'.ownsRow base 81 2 v' (n - 1) (xs.take (i * 2) ++ xs.drop ((i + 1) * 2)) ∧ Fr w w' (fun k => v.ownBlock = some k) := by
  obtain ⟨g, cap, cur, rfl, hn, hB, rfl⟩ := own_blk h (by omega)
  have hnk : n * 2 ≤ cap * 2 := Nat.mul_le_mul_right _ hn
  refine (delE_blk hB n i j h1 hj hi hn).mono ?_
  rintro e w' ⟨rfl, rfl⟩
  have hl : ((cur.take (n * 2)).drop ((i + 1) * 2)).length = (n - (i + 1)) * 2 := by rw [List.length_drop, List.length_take, hB.size]; omega
  have hB2 := (hB.drew.set (i * 2) _ (by rw [hl]; omega)).set ((n - 1) * 2) [.int .i64 0, .int .i64 0] (by simp only [List.length_cons, List.length_nil]; omega)
  refine ⟨_, rfl, rfl, ?_, ?_⟩
  · have := hB2.own (n := n - 1) (by omega)
    rw [del_list (k := 2) hi (by rw [hB.size]; exact hnk) rfl] at this
    exact this
  · exact ((Fr.drew w _).trans (fr_setCells g (S := fun k => Value.ownBlock (.slice (some ⟨g, 0, none⟩) n cap) = some k) rfl _ _ _) (fun _ _ h => h)).trans (fr_setCells g (S := fun k => Value.ownBlock (.slice (some ⟨g, 0, none⟩) n cap) = some k) rfl _ _ _) (fun _ _ h => h)

theorem mInfoV : (Try.prog.info? 84).map (fun i => (i.zero, i.size, i.bytes)) = some (some (.agg #[.int .i64 0, .int .i64 0, .slice none 0 0]), 3, 40) := by kernel_rfl
set_option maxHeartbeats 4000000 in
set_option maxRecDepth 100000 in
theorem delV_blk {w : World} {base g cap : Nat} {cur : List Value} (h : Blk w base 84 3 g cap cur) (n i j : Nat) (h1 : ∀ u ∈ cur.take (n * 3), u.oneCell' = true) (hj : j = i + 1) (hi : i < n) (hn : n ≤ cap) :
    Calls Try.prog 73 #[.slice (some ⟨g, 0, none⟩) n cap, .int .i64 i, .int .i64 j] w fun e w' => e = .returned (.slice (some ⟨g, 0, none⟩) (n - 1) cap) ∧ w' = (w.drew.setCells g (i * 3) ((cur.take (n * 3)).drop ((i + 1) * 3))).setCells g ((n - 1) * 3) [.int .i64 0, .int .i64 0, .slice none 0 0] := by
  obtain ⟨i0, hi0, hz0, hzs, hzb⟩ := info_parts mInfoV
  have hzc : (Builtin.zeroCells (.agg #[.int .i64 0, .int .i64 0, .slice none 0 0] : Value).cells 1).toList = [.int .i64 0, .int .i64 0, .slice none 0 0] := by kernel_rfl
  have hmax : cap ≤ 9223372036854775807 := by have := h.max; unfold maxLen at this; omega
  have hnk : n * 3 ≤ cap * 3 := Nat.mul_le_mul_right _ hn
  have hlc : cur.length = cap * 3 := h.size
  obtain ⟨news, hnews⟩ : ∃ news, news = (cur.take (n * 3)).drop ((i + 1) * 3) := ⟨_, rfl⟩
  have hlen : news.length = (n - (i + 1)) * 3 := by rw [hnews, List.length_drop, List.length_take]; omega
  have hget : ∀ t u, news[t]? = some u → cur[(i + 1) * 3 + t]? = some u := by
    intro t u hu
    rw [hnews, List.getElem?_drop, List.getElem?_take] at hu
    split at hu
    · exact hu
    · cases hu
  obtain ⟨A, hA, hsrc⟩ : ∃ A : Addr, (if cap = j then some (⟨g, 0, none⟩ : Addr) else some ⟨g, j * 3, none⟩) = some A ∧ Hid (∀ t u, news[t]? = some u → w.drew.cell? (A.add t) = some u) := by
    by_cases hc : cap = j
    · refine ⟨⟨g, 0, none⟩, by simp [hc], fun t u hu => ?_⟩
      have h0 : news.length = 0 := by rw [hlen]; omega
      rw [List.length_eq_zero_iff.1 h0] at hu
      simp at hu
    · refine ⟨⟨g, j * 3, none⟩, by simp [hc], fun t u hu => ?_⟩
      rw [Addr.add_lit, hj]
      exact (h.cell _).trans (hget t u hu)
  have s1 : Hid (news.length = (n - j) * 3) := by show _ = _; rw [hj]; exact hlen
  have s2 : Hid (∀ u ∈ news, u.oneCell' = true) := by
    intro u hu
    rw [hnews] at hu
    exact h1 u (List.mem_of_mem_drop hu)
  have s3 : Hid (∀ t, t < news.length → (w.drew.cell? ⟨g, 0 + i * 3 + t, none⟩).isSome = true ∧ w.drew.frozen? ⟨g, 0 + i * 3 + t, none⟩ = false) := by
    intro t ht
    rw [hlen] at ht
    exact ⟨h.there (by omega), h.soft _⟩
  have hB1 := h.drew.set (i * 3) news (by rw [hlen]; omega)
  obtain ⟨W1, hW1⟩ : ∃ W1, W1 = w.drew.setCells g (i * 3) news := ⟨_, rfl⟩
  rw [← hW1] at hB1
  have hcl : ∀ ty, (Builtin.clear_ #[22] ty #[.slice (some ⟨g, (n - 1) * 3, none⟩) (n - (n - 1)) (cap - (n - 1))]).run Try.prog W1 = .ok (.tuple #[]) (W1.setCells g ((n - 1) * 3) [.int .i64 0, .int .i64 0, .slice none 0 0]) :=
    fun ty => by
      rw [← hzc, show n - (n - 1) = 1 by omega]
      exact run_clear_k W1 _ _ ty (.agg #[.int .i64 0, .int .i64 0, .slice none 0 0]) Try.underlying22 Try.zeroValue84 (by decide) (by intro v hv; simp [Value.cells] at hv; rcases hv with rfl | rfl | rfl <;> rfl) g ((n - 1) * 3) 1 (cap - (n - 1)) (by decide) (fun j hj => hB1.there (by simp [Value.cells] at hj; omega)) (fun j hj => hB1.soft _)
  have hW : Hid (W1 = w.drew.setCells g (0 + i * 3) news) := by show _ = _; rw [Nat.zero_add]; exact hW1
  have HE : Hid (W1 = w.drew.setCells g (i * 3) news) := hW1
  have hin : i ≤ cap := by omega
  have hjc : j ≤ cap := by omega
  have hin2 : j ≤ n := by omega
  have hij : i ≤ j := by omega
  have hne : ¬ i = j := by omega
  have hsum : i + (n - j) = n - 1 := by omega
  have HJ : Hid (j = i + 1) := hj
  rw [← hnews]
  clear hW1 hB1 hget hnews hlen hlc hnk h h1 hj hzc
  go_enter Try.func73, Try.ntmps73
  go_wp2_with fail
  go_region_law (refine step_append_room rfl (.tmp 22) (.tmp 25) 22 rfl 84 i0 3 Try.underlying22 hi0 hzs g 0 i cap (by simp [Act.eval, Act.put]) A (n - j) (cap - j) news (by simp [Act.eval, Act.put]) s1.out hsrc.out s2.out (by omega) s3.out ?_; rw [← hW.out])
  go_wp2
  go_ret
  exact ⟨rfl, by rw [HE.out]⟩
/-- slices.Delete of one element of a row of one's own. -/
theorem delV_any {w : World} {base : Nat} {v : Value} {n : Nat} {xs : List Value} (h : w.ownsRow base 84 3 v n xs) (h1 : ∀ u ∈ xs, u.oneCell' = true) (i j : Nat) (hj : j = i + 1) (hi : i < n) :
    Calls Try.prog 73 #[v, .int .i64 i, .int .i64 j] w fun e w' => ∃ v', e = .returned v' ∧ v'.ownBlock = v.ownBlock ∧ w'.ownsRow base 84 3 v' (n - 1) (xs.take (i * 3) ++ xs.drop ((i + 1) * 3)) ∧ Fr w w' (fun k => v.ownBlock = some k) := by
  obtain ⟨g, cap, cur, rfl, hn, hB, rfl⟩ := own_blk h (by omega)
  have hnk : n * 3 ≤ cap * 3 := Nat.mul_le_mul_right _ hn
  refine (delV_blk hB n i j h1 hj hi hn).mono ?_
  rintro e w' ⟨rfl, rfl⟩
  have hl : ((cur.take (n * 3)).drop ((i + 1) * 3)).length = (n - (i + 1)) * 3 := by rw [List.length_drop, List.length_take, hB.size]; omega
  have hB2 := (hB.drew.set (i * 3) _ (by rw [hl]; omega)).set ((n - 1) * 3) [.int .i64 0, .int .i64 0, .slice none 0 0] (by simp only [List.length_cons, List.length_nil]; omega)
  refine ⟨_, rfl, rfl, ?_, ?_⟩
  · have := hB2.own (n := n - 1) (by omega)
    rw [del_list (k := 3) hi (by rw [hB.size]; exact hnk) rfl] at this
    exact this
  · exact ((Fr.drew w _).trans (fr_setCells g (S := fun k => Value.ownBlock (.slice (some ⟨g, 0, none⟩) n cap) = some k) rfl _ _ _) (fun _ _ h => h)).trans (fr_setCells g (S := fun k => Value.ownBlock (.slice (some ⟨g, 0, none⟩) n cap) = some k) rfl _ _ _) (fun _ _ h => h)
end Go.Proofs.Ythnhmhjcpdomcaa
