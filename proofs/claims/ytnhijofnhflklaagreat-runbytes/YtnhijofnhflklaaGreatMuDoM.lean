import Derived.Test.YtnhijofnhflklaaGreatMuDelM
import Derived.Lib.Overlaps
import Derived.Laws.Externs
import Derived.Maps.AppendAt
import Derived.Test.YtnhijofnhflklaaGreatGrTakeM
import Derived.Test.YtnhijofnhflklaaGreatMuMathM
section
/- slices.Insert of one element, at edges and at vertices. -/
namespace Go.Proofs.YtnhijofnhflklaaGreat
open Go.RowKit
/-- What stands behind an insertion in place. -/
theorem ins_list' {cur ys : List Value} {N p k : Nat} (hp : p ≤ N) (hc : N + k ≤ cur.length) (hy : ys.length = k) :
    (over (over cur (p + k) ((cur.take N).drop p)) p ys).take (N + k) = (cur.take N).take p ++ ys ++ (cur.take N).drop p := by
  obtain ⟨D, hD⟩ : ∃ D, D = (cur.take N).drop p := ⟨_, rfl⟩
  have hl : D.length = N - p := by rw [hD, List.length_drop, List.length_take]; omega
  rw [← hD]
  have hd : (over cur (p + k) D).drop (p + k) = D ++ cur.drop (p + k + D.length) := by
    unfold over
    rw [List.append_assoc, List.drop_left' (by rw [List.length_take]; omega)]
  have ht : (over cur (p + k) D).take p = cur.take p := over_take_lo _ _ _ (by omega) (by omega)
  show ((over cur (p + k) D).take p ++ ys ++ (over cur (p + k) D).drop (p + ys.length)).take (N + k) = _
  rw [ht, hy, hd, List.take_take, Nat.min_eq_left hp, ← List.append_assoc, List.take_left' (by rw [List.length_append, List.length_append, List.length_take]; omega)]
theorem ins_list {cur ys : List Value} {n i k : Nat} (hi : i ≤ n) (hc : (n + 1) * k ≤ cur.length) (hy : ys.length = k) :
    (over (over cur ((i + 1) * k) ((cur.take (n * k)).drop (i * k))) (i * k) ys).take ((n + 1) * k) = (cur.take (n * k)).take (i * k) ++ ys ++ (cur.take (n * k)).drop (i * k) := by
  have e1 : i * k ≤ n * k := Nat.mul_le_mul_right k hi
  rw [Nat.succ_mul] at hc
  rw [Nat.succ_mul, Nat.succ_mul]
  exact ins_list' e1 hc hy
theorem grow_list' {xs zs ys : List Value} {N p k : Nat} (hp : p ≤ N) (hx : xs.length = N) (hz : N + k ≤ (xs.take p ++ zs).length) (hy : ys.length = k) :
    (over (over (xs.take p ++ zs) p ys) (p + k) (xs.drop p)).take (N + k) = xs.take p ++ ys ++ xs.drop p := by
  have hl := over_len (xs.take p ++ zs) p ys (by omega)
  have h5 : N + k = (p + k) + (xs.drop p).length := by rw [List.length_drop]; omega
  have e : (over (xs.take p ++ zs) p ys).take (p + k) = xs.take p ++ ys := by
    rw [← hy, over_take_at _ _ _ (by omega), List.take_left' (by rw [List.length_take]; omega)]
  rw [h5, over_take_at _ _ _ (by omega), e]
theorem grow_list {xs zs ys : List Value} {n i k : Nat} (hi : i ≤ n) (hx : xs.length = n * k) (hz : (n + 1) * k ≤ (xs.take (i * k) ++ zs).length) (hy : ys.length = k) :
    (over (over (xs.take (i * k) ++ zs) (i * k) ys) ((i + 1) * k) (xs.drop (i * k))).take ((n + 1) * k) = xs.take (i * k) ++ ys ++ xs.drop (i * k) := by
  have e1 : i * k ≤ n * k := Nat.mul_le_mul_right k hi
  rw [Nat.succ_mul] at hz
  rw [Nat.succ_mul, Nat.succ_mul]
  exact grow_list' e1 hx hz hy
theorem cells_blk {w : World} {b : Nat} {t : TypeId} {ys : List Value} {f : Nat × Nat} (h : w.heap[b]? = some (.cells ys.toArray t f)) : ∀ j u, ys[j]? = some u → w.cell? ((⟨b, 0, none⟩ : Addr).add j) = some u := by
  intro j u hu
  rw [Addr.add_lit, Nat.zero_add]
  simp [World.cell?, h, hu]

set_option maxHeartbeats 4000000 in
set_option maxRecDepth 100000 in
/-- There is room, and it stands ahead of others: in place. -/
theorem insE_shift {w : World} {base g cap vb : Nat} {cur ys : List Value} (h : Blk w base 106 2 g cap cur) (n i : Nat) (hi : i < n) (hn : n + 1 ≤ cap) (h1 : ∀ u ∈ cur.take (n * 2), u.oneCell' = true)
    (hv : w.heap[vb]? = some (.cells ys.toArray 106 (0, 0))) (hy : ys.length = 2) (hy1 : ∀ u ∈ ys, u.oneCell' = true) (hne : vb ≠ g) :
    Calls Tryz.prog 229 #[.slice (some ⟨g, 0, none⟩) n cap, .int .i64 i, .slice (some ⟨vb, 0, none⟩) 1 1] w fun e w' =>
      e = .returned (.slice (some ⟨g, 0, none⟩) (n + 1) cap) ∧ w' = (w.drew.setCells g ((i + 1) * 2) ((cur.take (n * 2)).drop (i * 2))).setCells g (i * 2) ys := by
  obtain ⟨i0, hi0, hz0, hzs, hzb⟩ := info_parts mInfoE
  have hmax : cap ≤ 9223372036854775807 := by have := h.max; unfold maxLen at this; omega
  have hlc : cur.length = cap * 2 := h.size
  have hcells := cells_blk hv
  have hov : ∀ lb cb, (callFunc 263 #[.slice (some ⟨vb, 0, none⟩) 1 1, .slice (some ⟨g, (i + 1) * 2, none⟩) lb cb]).run Tryz.prog w = .ok (.value (.bool false)) w := fun lb cb => by
    rw [run_callFunc_extern Tryz.func263 (by kernel_rfl) (by kernel_rfl) (by kernel_rfl) (e := Extern.SlicesOverlaps.overlaps #[80, 80] #[4]) (by kernel_rfl),
      Lib.run_overlaps_apart w 80 4 106 Tryz.underlying80 2 Tryz.sizeOf106 ⟨vb, 0, none⟩ ⟨g, (i + 1) * 2, none⟩ 1 1 lb cb hne 106 106 2 (cap * 2) (by simp [World.shape?, hv, hy]) (by simp [World.shape?, h.heap, hlc]) (by omega) (by simp [World.frozen?, hv]) (by simp [World.frozen?, hv])]
    rfl
  obtain ⟨news, hnews⟩ : ∃ news, news = (cur.take (n * 2)).drop (i * 2) := ⟨_, rfl⟩
  have hlen : news.length = (n - i) * 2 := by rw [hnews, List.length_drop, List.length_take]; omega
  have hget : ∀ t u, news[t]? = some u → cur[i * 2 + t]? = some u := by
    intro t u hu
    rw [hnews, List.getElem?_drop, List.getElem?_take] at hu
    split at hu
    · exact hu
    · cases hu
  have hB1 := h.drew.set ((i + 1) * 2) news (by rw [hlen]; omega)
  have hcp1 : ∀ ty dc sc, (Builtin.copy_ #[80, 80] ty #[.slice (some ⟨g, (i + 1) * 2, none⟩) (n - i) dc, .slice (some ⟨g, i * 2, none⟩) (n + 1 - i) sc]).run Tryz.prog w.drew = .ok (goInt ((n - i : Nat) : Int)) (w.drew.setCells g ((i + 1) * 2) news) := fun ty dc sc =>
    run_copy_k w.drew _ _ ty 106 i0 g ((i + 1) * 2) (n - i) dc ⟨g, i * 2, none⟩ (n + 1 - i) sc (n - i) news Tryz.underlying80 hi0 (by simp only [Nat.min_def]; split <;> omega) (by rw [hzs]; exact hlen)
      (fun j u hj => by rw [Addr.add_lit]; exact (h.cell _).trans (hget j u hj))
      (fun j hj => h.there (by omega)) (fun j hj => h.soft _) (fun u hu => by rw [hnews] at hu; exact h1 u (List.mem_of_mem_drop hu))
  obtain ⟨W1, hW1⟩ : ∃ W1, W1 = w.drew.setCells g ((i + 1) * 2) news := ⟨_, rfl⟩
  rw [← hW1] at hB1 hcp1
  have hv1 : W1.heap[vb]? = some (.cells ys.toArray 106 (0, 0)) := by
    rw [hW1]
    exact ((fr_setCells g (S := fun k => k = g) rfl news ((i + 1) * 2) w.drew).block vb (Array.getElem?_eq_some_iff.1 hv).1 hne).trans hv
  have hcp2 : ∀ ty dc, (Builtin.copy_ #[80, 80] ty #[.slice (some ⟨g, i * 2, none⟩) (n + 1 - i) dc, .slice (some ⟨vb, 0, none⟩) 1 1]).run Tryz.prog W1 = .ok (goInt 1) (W1.setCells g (i * 2) ys) := fun ty dc =>
    run_copy_k W1 _ _ ty 106 i0 g (i * 2) (n + 1 - i) dc ⟨vb, 0, none⟩ 1 1 1 ys Tryz.underlying80 hi0 (by simp only [Nat.min_def]; split <;> omega) (by rw [hzs, hy])
      (cells_blk hv1) (fun j hj => hB1.there (by omega)) (fun j hj => hB1.soft _) hy1
  have HE : Hid (W1 = w.drew.setCells g ((i + 1) * 2) news) := hW1
  have HC1 : Hid _ := hcp1
  have HOv : Hid _ := hov
  rw [← hnews]
  have hz2 : ¬ ((i : Int) = (n : Int)) := by omega
  have hin : i ≤ n := by omega
  have hic : i ≤ cap := by omega
  have htn : ((i : Int) + 1).toNat = i + 1 := by omega
  have hw1 : IntKind.i64.wrap ((i : Int) + 1) = (i : Int) + 1 := by rw [IntKind.wrap_i64]; omega
  have hb1 : (0 : Int) ≤ (i : Int) + 1 := by omega
  have hb6 : (i : Int) + 1 ≤ (n : Int) + 1 := by omega
  have htn2 : ((n : Int) + 1).toNat = n + 1 := by omega
  have hb2 : ¬ (cap = i + 1) := by omega
  have hb4 : ¬ (cap = i) := by omega
  have hb3 : (i : Int) ≤ (n : Int) + 1 := by omega
  have hb5 : ¬ ((cap : Int) < (n : Int) + 1) := by omega
  clear hW1 hB1 hget hnews hlen hlc h h1 hcp1 hcells hv1 hv
  go_enter Tryz.func229, Tryz.ntmps229
  go_wp2_with (simp only [hov])
  go_region_law (refine step_copy_run rfl _ _ 80 80 rfl (.slice (some ⟨g, (i + 1) * 2, none⟩) (n - i) (cap - (i + 1))) (.slice (some ⟨g, i * 2, none⟩) (n + 1 - i) (cap - i)) (by simp [Act.eval, Act.put]) (by simp [Act.eval, Act.put]) (HC1.out 3 (cap - (i + 1)) (cap - i)) ?_)
  go_wp2
  go_ret
  exact ⟨rfl, by rw [HE.out]⟩
set_option maxHeartbeats 4000000 in
set_option maxRecDepth 100000 in
/-- There is no room: a new row. -/
theorem insE_grow {w : World} {base g cap vb : Nat} {cur ys : List Value} (h : Blk w base 106 2 g cap cur) (n i : Nat) (hi : i < n) (hn : n ≤ cap) (hroom : cap < n + 1) (hbig : (n + 1) * 16 ≤ 140737488355328) (h1 : ∀ u ∈ cur.take (n * 2), u.oneCell' = true)
    (hv : w.heap[vb]? = some (.cells ys.toArray 106 (0, 0))) (hy : ys.length = 2) (hy1 : ∀ u ∈ ys, u.oneCell' = true) :
    Calls Tryz.prog 229 #[.slice (some ⟨g, 0, none⟩) n cap, .int .i64 i, .slice (some ⟨vb, 0, none⟩) 1 1] w fun e w' =>
      ∃ G zs, e = .returned (.slice (some ⟨w.heap.size, 0, none⟩) (n + 1) G) ∧ n + 1 ≤ G ∧ G ≤ maxLen ∧ ((cur.take (n * 2)).take (i * 2) ++ zs).length = G * 2 ∧
      w' = (((w.alloc (.cells ((cur.take (n * 2)).take (i * 2) ++ zs).toArray 106)).drew.setCells w.heap.size (i * 2) ys).drew).setCells w.heap.size ((i + 1) * 2) ((cur.take (n * 2)).drop (i * 2)) := by
  obtain ⟨i0, hi0, hz0, hzs, hzb⟩ := info_parts mInfoE
  have hmax : cap ≤ 9223372036854775807 := by have := h.max; unfold maxLen at this; omega
  have hlc : cur.length = cap * 2 := h.size
  obtain ⟨xs, hxs⟩ : ∃ xs, xs = cur.take (n * 2) := ⟨_, rfl⟩
  rw [← hxs] at h1 ⊢
  have hxl : xs.length = n * 2 := by rw [hxs, List.length_take]; omega
  have hget : ∀ (t : Nat) (u : Value), xs[t]? = some u → cur[t]? = some u := by
    intro t u hu
    rw [hxs, List.getElem?_take] at hu
    split at hu
    · exact hu
    · cases hu
  have hkk : (n : Int) + 1 - (i : Int) = ((n + 1 - i : Nat) : Int) := by omega
  have hik : i + (n + 1 - i) = n + 1 := by omega
  have hold : (Builtin.firstCells i0.size i (.slice (some ⟨g, 0, none⟩) i cap)).run Tryz.prog w.drew = .ok (xs.take (i * 2)).toArray w.drew := by
    rw [hzs]
    exact run_firstCells_some w.drew 2 i ⟨g, 0, none⟩ i cap (xs.take (i * 2)) (by rw [List.length_take]; omega) (fun j u hj => by
      rw [Addr.add_lit, Nat.zero_add]
      rw [List.getElem?_take] at hj
      split at hj
      · exact (h.cell _).trans (hget j u hj)
      · cases hj)
  have hrz : ∀ ty, (Builtin.append_ #[80, 3] ty #[.slice (some ⟨g, 0, none⟩) i cap, .int .i64 ((n : Int) + 1 - (i : Int))]).run Tryz.prog w =
      .ok (.slice (some ⟨w.heap.size, 0, none⟩) (n + 1) (grownCap w (n + 1) cap 106)) (w.drew.alloc (.cells ((xs.take (i * 2)).toArray ++ Builtin.zeroCells (.agg #[.int .i64 0, .int .i64 0] : Value).cells (n + 1 - i) ++ Builtin.zeroCells (.agg #[.int .i64 0, .int .i64 0] : Value).cells (grownCap w (n + 1) cap 106 - (n + 1))) 106)) := fun ty => by
    have h := Lib.run_append_grow_zeros w 80 3 ty 106 i0 _ .i64 .i64 Tryz.underlying80 Tryz.underlying3 hi0 hz0 (some ⟨g, 0, none⟩) i cap (xs.take (i * 2)) hold (n + 1 - i) (by omega) (by omega) (by omega) (by omega) (by rw [hzb]; omega) (by rw [hzb, hik]; exact growslice_fits hroom hbig)
    rw [hik] at h
    rw [hkk]
    exact h
  obtain ⟨G, hG⟩ : ∃ G, G = grownCap w (n + 1) cap 106 := ⟨_, rfl⟩
  rw [← hG] at hrz
  obtain ⟨zs, hzs'⟩ : ∃ zs : List Value, zs = (Builtin.zeroCells (.agg #[.int .i64 0, .int .i64 0] : Value).cells (n + 1 - i)).toList ++ (Builtin.zeroCells (.agg #[.int .i64 0, .int .i64 0] : Value).cells (G - (n + 1))).toList := ⟨_, rfl⟩
  have hrow : (xs.take (i * 2)).toArray ++ Builtin.zeroCells (.agg #[.int .i64 0, .int .i64 0] : Value).cells (n + 1 - i) ++ Builtin.zeroCells (.agg #[.int .i64 0, .int .i64 0] : Value).cells (G - (n + 1)) = (xs.take (i * 2) ++ zs).toArray := by
    rw [hzs']
    apply Array.ext'
    simp
  rw [hrow] at hrz
  have hGn : n + 1 ≤ G := by rw [hG]; exact grownCap_ge w _ _ _
  have hGm : G ≤ maxLen := by rw [hG]; exact grownCap_le_maxLen w (n + 1) cap 106 (by unfold maxLen; omega)
  have hG63 : G ≤ 9223372036854775807 := by unfold maxLen at hGm; omega
  have hRl : (xs.take (i * 2) ++ zs).length = G * 2 := by
    have hk : (.agg #[.int .i64 0, .int .i64 0] : Value).cells.size = 2 := by decide
    rw [List.length_append, hzs', List.length_append, zc_len, zc_len, List.length_take, hk]
    omega
  obtain ⟨ROW, hROW⟩ : ∃ ROW, ROW = xs.take (i * 2) ++ zs := ⟨_, rfl⟩
  rw [← hROW] at hRl hrz
  have hB0 : Blk (w.alloc (.cells ROW.toArray 106)).drew w.heap.size 106 2 w.heap.size G ROW := ⟨Nat.le_refl _, heap_alloc_new w _, hGm, hRl⟩
  have hB1 := (hB0.set (i * 2) ys (by omega)).drew
  have hvl : vb < w.heap.size := (Array.getElem?_eq_some_iff.1 hv).1
  have hv0 : ((w.alloc (.cells ROW.toArray 106)).drew).heap[vb]? = some (.cells ys.toArray 106 (0, 0)) := (Below.heap_alloc w _ _ hvl).trans hv
  have hgl : g < w.heap.size := h.lt
  have hg1 : (((w.alloc (.cells ROW.toArray 106)).drew.setCells w.heap.size (i * 2) ys).drew).heap[g]? = some (.cells cur.toArray 106 (0, 0)) :=
    ((fr_setCells w.heap.size (S := fun k => k = w.heap.size) rfl ys (i * 2) (w.alloc (.cells ROW.toArray 106)).drew).block g (by show g < (w.alloc _).heap.size; rw [World.size_alloc]; omega) (by omega)).trans ((Below.heap_alloc w _ _ hgl).trans h.heap)
  have hcpA : ∀ ty dc, (Builtin.copy_ #[80, 80] ty #[.slice (some ⟨w.heap.size, i * 2, none⟩) (n + 1 - i) dc, .slice (some ⟨vb, 0, none⟩) 1 1]).run Tryz.prog ((w.alloc (.cells ROW.toArray 106)).drew) = .ok (goInt 1) (((w.alloc (.cells ROW.toArray 106)).drew).setCells w.heap.size (i * 2) ys) := fun ty dc =>
    run_copy_k ((w.alloc (.cells ROW.toArray 106)).drew) _ _ ty 106 i0 w.heap.size (i * 2) (n + 1 - i) dc ⟨vb, 0, none⟩ 1 1 1 ys Tryz.underlying80 hi0 (by simp only [Nat.min_def]; split <;> omega) (by rw [hzs, hy])
      (cells_blk hv0) (fun j hj => hB0.there (by omega)) (fun j hj => hB0.soft _) hy1
  have hcpB : ∀ ty dc sc, (Builtin.copy_ #[80, 80] ty #[.slice (some ⟨w.heap.size, (i + 1) * 2, none⟩) (n - i) dc, .slice (some ⟨g, i * 2, none⟩) (n - i) sc]).run Tryz.prog ((((w.alloc (.cells ROW.toArray 106)).drew).setCells w.heap.size (i * 2) ys).drew) = .ok (goInt ((n - i : Nat) : Int)) (((((w.alloc (.cells ROW.toArray 106)).drew).setCells w.heap.size (i * 2) ys).drew).setCells w.heap.size ((i + 1) * 2) (xs.drop (i * 2))) := fun ty dc sc =>
    run_copy_k ((((w.alloc (.cells ROW.toArray 106)).drew).setCells w.heap.size (i * 2) ys).drew) _ _ ty 106 i0 w.heap.size ((i + 1) * 2) (n - i) dc ⟨g, i * 2, none⟩ (n - i) sc (n - i) (xs.drop (i * 2)) Tryz.underlying80 hi0 (by simp only [Nat.min_def]; split <;> omega) (by rw [hzs, List.length_drop]; omega)
      (fun j u hj => by rw [Addr.add_lit]; simp only [World.cell?, hg1]; rw [List.getElem?_drop] at hj; simpa using hget _ u hj)
      (fun j hj => hB1.there (by rw [List.length_drop] at hj; omega)) (fun j hj => hB1.soft _) (fun u hu => h1 u (List.mem_of_mem_drop hu))
  have HA : Hid _ := hrz
  have HC2 : Hid _ := hcpB
  have HR : Hid (ROW = xs.take (i * 2) ++ zs) := hROW
  have HGm : Hid (G ≤ maxLen) := hGm
  have HRl : Hid (ROW.length = G * 2) := hRl
  have hz2 : ¬ ((i : Int) = (n : Int)) := by omega
  have hin : i ≤ n := by omega
  have hic : i ≤ cap := by omega
  have htn : ((i : Int) + 1).toNat = i + 1 := by omega
  have hw1 : IntKind.i64.wrap ((i : Int) + 1) = (i : Int) + 1 := by rw [IntKind.wrap_i64]; omega
  have hb1 : (0 : Int) ≤ (i : Int) + 1 := by omega
  have hb6 : (i : Int) + 1 ≤ (n : Int) + 1 := by omega
  have hGi : ¬ (G = i) := by omega
  have hGim : ¬ (G = i + 1) := by omega
  have hci : ¬ (cap = i) := by omega
  have hb3 : (i : Int) ≤ (n : Int) + 1 := by omega
  have hb5 : (cap : Int) < (n : Int) + 1 := by omega
  clear hrz hcpB hROW hRl hGm hB0 hB1 hv0 hg1 hG hzs' hrow hold hkk hik hget hxl hxs hlc h1 hv h
  go_enter Tryz.func229, Tryz.ntmps229
  go_wp2_with (at_builtin; refine Lib.wpList_append_run _ rfl _ _ _ _ rfl _ _ rfl rfl _ _ (HA.out _) ?_)
  go_region_law (refine step_copy_run rfl _ _ 80 80 rfl (.slice (some ⟨w.heap.size, (i + 1) * 2, none⟩) (n - i) (G - (i + 1))) (.slice (some ⟨g, i * 2, none⟩) (n - i) (cap - i)) (by simp [Act.eval, Act.put]) (by simp [Act.eval, Act.put]) (HC2.out 3 (G - (i + 1)) (cap - i)) ?_)
  go_wp2
  go_ret
  exact ⟨G, zs, rfl, hGn, HGm.out, by rw [← HR.out]; exact HRl.out, by rw [← HR.out]⟩
set_option maxHeartbeats 4000000 in
set_option maxRecDepth 100000 in
/-- At the end. -/
theorem insE_end {w : World} {base vb : Nat} {v : Value} {n : Nat} {xs ys : List Value} (h : w.ownsRow base 106 2 v n xs) (hbase : base ≤ w.heap.size) (hbig : (n + 1) * 16 ≤ 140737488355328)
    (hv : w.heap[vb]? = some (.cells ys.toArray 106 (0, 0))) (hy : ys.length = 2) (hy1 : ∀ u ∈ ys, u.oneCell' = true) :
    Calls Tryz.prog 229 #[v, .int .i64 n, .slice (some ⟨vb, 0, none⟩) 1 1] w fun e w' =>
      ∃ v', e = .returned v' ∧ (v'.ownBlock = v.ownBlock ∨ v'.ownBlock = some w.heap.size) ∧ w'.ownsRow base 106 2 v' (n + 1) (xs ++ ys) ∧ Fr w w' (fun k => v.ownBlock = some k) := by
  obtain ⟨i0, hi0, hz0, hzs, hzb⟩ := info_parts mInfoE
  have HO : Hid _ := h
  have HV : Hid _ := cells_blk hv
  have HY : Hid (ys.length = 1 * 2) := by show _ = _; rw [hy]
  have HY1 : Hid _ := hy1
  have HB : Hid (base ≤ w.heap.size) := hbase
  clear hv hy hy1
  rcases h.2 with ⟨rfl, rfl⟩ | ⟨g, cap, cur, rfl, _, _, hnc, hcm, _⟩
  · clear h
    go_enter Tryz.func229, Tryz.ntmps229
    go_wp2_with (at_builtin; refine wpList_append_own_at _ rfl _ _ 80 rfl base 106 i0 (.agg #[.int .i64 0, .int .i64 0]) 2 16 Tryz.underlying80 hi0 hz0 hzs hzb rfl (by decide) _ _ _ rfl HO.out ⟨vb, 0, none⟩ 1 1 ys rfl HY.out HV.out HY1.out (by decide) (by omega) HB.out ?_)
    intro v' w1 hown hgrow _ hat
    obtain ⟨ao', m', c', rfl⟩ := own_any hown
    have HW : Hid _ := hown
    clear hown
    go_wp2
    go_ret
    exact ⟨_, rfl, hat, HW.out, Fr.grown hgrow (fun k hk => hk)⟩
  · clear h
    have hcm' : cap ≤ 9223372036854775807 := by unfold maxLen at hcm; omega
    clear hcm
    go_enter Tryz.func229, Tryz.ntmps229
    go_wp2_with (at_builtin; refine wpList_append_own_at _ rfl _ _ 80 rfl base 106 i0 (.agg #[.int .i64 0, .int .i64 0]) 2 16 Tryz.underlying80 hi0 hz0 hzs hzb rfl (by decide) _ _ _ rfl HO.out ⟨vb, 0, none⟩ 1 1 ys rfl HY.out HV.out HY1.out (by unfold maxLen; omega) (by omega) HB.out ?_)
    all_goals
      intro v' w1 hown hgrow _ hat
      obtain ⟨ao', m', c', rfl⟩ := own_any hown
      have HW : Hid _ := hown
      clear hown
      go_wp2
      go_ret
      exact ⟨_, rfl, hat, HW.out, Fr.grown hgrow (fun k hk => hk)⟩
/-- slices.Insert of one element into a row of one's own. -/
theorem insE_any {w : World} {base vb : Nat} {v : Value} {n : Nat} {xs ys : List Value} (h : w.ownsRow base 106 2 v n xs) (h1 : ∀ u ∈ xs, u.oneCell' = true) (i : Nat) (hi : i ≤ n) (hbase : base ≤ w.heap.size) (hbig : (n + 1) * 16 ≤ 140737488355328)
    (hv : w.heap[vb]? = some (.cells ys.toArray 106 (0, 0))) (hy : ys.length = 2) (hy1 : ∀ u ∈ ys, u.oneCell' = true) (hne : v.ownBlock ≠ some vb) :
    Calls Tryz.prog 229 #[v, .int .i64 i, .slice (some ⟨vb, 0, none⟩) 1 1] w fun e w' =>
      ∃ v', e = .returned v' ∧ (v'.ownBlock = v.ownBlock ∨ v'.ownBlock = some w.heap.size) ∧ w'.ownsRow base 106 2 v' (n + 1) (xs.take (i * 2) ++ ys ++ xs.drop (i * 2)) ∧ Fr w w' (fun k => v.ownBlock = some k) := by
  have hxl := h.1
  by_cases hin : i = n
  · subst hin
    have e : xs.take (i * 2) ++ ys ++ xs.drop (i * 2) = xs ++ ys := by rw [List.take_of_length_le (by omega), List.drop_of_length_le (by omega), List.append_nil]
    rw [e]
    exact insE_end h hbase hbig hv hy hy1
  · obtain ⟨g, cap, cur, rfl, hn, hB, rfl⟩ := own_blk h (by omega)
    have hcl := hB.size
    have hnk : n * 2 ≤ cap * 2 := Nat.mul_le_mul_right _ hn
    have hlen : ((cur.take (n * 2)).drop (i * 2)).length = (n - i) * 2 := by rw [List.length_drop, hxl]; omega
    by_cases hroom : n + 1 ≤ cap
    · refine (insE_shift hB n i (by omega) hroom h1 hv hy hy1 (fun e => hne (by rw [e]; rfl))).mono ?_
      rintro e w' ⟨rfl, rfl⟩
      have hB2 := (hB.drew.set ((i + 1) * 2) _ (by rw [hlen]; omega)).set (i * 2) ys (by omega)
      refine ⟨_, rfl, .inl rfl, ?_, ?_⟩
      · have := hB2.own hroom
        rw [ins_list (k := 2) hi (by omega) hy] at this
        exact this
      · exact ((Fr.drew w _).trans (fr_setCells g (S := fun k => Value.ownBlock (.slice (some ⟨g, 0, none⟩) n cap) = some k) rfl _ _ _) (fun _ _ h => h)).trans (fr_setCells g (S := fun k => Value.ownBlock (.slice (some ⟨g, 0, none⟩) n cap) = some k) rfl _ _ _) (fun _ _ h => h)
    · refine (insE_grow hB n i (by omega) hn (by omega) hbig h1 hv hy hy1).mono ?_
      rintro e w' ⟨G, zs, rfl, hG, hGm, hl, rfl⟩
      have hB0 : Blk (w.alloc (.cells ((cur.take (n * 2)).take (i * 2) ++ zs).toArray 106)).drew base 106 2 w.heap.size G ((cur.take (n * 2)).take (i * 2) ++ zs) := ⟨hbase, heap_alloc_new w _, hGm, hl⟩
      have hB2 := (hB0.set (i * 2) ys (by omega)).drew.set ((i + 1) * 2) ((cur.take (n * 2)).drop (i * 2)) (by rw [hlen]; omega)
      refine ⟨_, rfl, .inr rfl, ?_, ?_⟩
      · have := hB2.own hG
        rw [grow_list (k := 2) hi hxl (by omega) hy] at this
        exact this
      · have f0 : Fr w (w.alloc (.cells ((cur.take (n * 2)).take (i * 2) ++ zs).toArray 106)).drew (fun k => Value.ownBlock (.slice (some ⟨g, 0, none⟩) n cap) = some k) := (Fr.alloc w _ _).trans (Fr.drew _ _) (fun _ _ h => h)
        have f1 := f0.trans (fr_setCells w.heap.size (S := fun k => k = w.heap.size) rfl ys (i * 2) _) (fun k hk e => by omega)
        exact (f1.trans (Fr.drew _ (fun _ => False)) (fun _ _ h => h.elim)).trans (fr_setCells w.heap.size (S := fun k => k = w.heap.size) rfl _ ((i + 1) * 2) _) (fun k hk e => by omega)

set_option maxHeartbeats 4000000 in
set_option maxRecDepth 100000 in
/-- There is room, and it stands ahead of others: in place. -/
theorem insV_shift {w : World} {base g cap vb : Nat} {cur ys : List Value} (h : Blk w base 82 3 g cap cur) (n i : Nat) (hi : i < n) (hn : n + 1 ≤ cap) (h1 : ∀ u ∈ cur.take (n * 3), u.oneCell' = true)
    (hv : w.heap[vb]? = some (.cells ys.toArray 82 (0, 0))) (hy : ys.length = 3) (hy1 : ∀ u ∈ ys, u.oneCell' = true) (hne : vb ≠ g) :
    Calls Tryz.prog 185 #[.slice (some ⟨g, 0, none⟩) n cap, .int .i64 i, .slice (some ⟨vb, 0, none⟩) 1 1] w fun e w' =>
      e = .returned (.slice (some ⟨g, 0, none⟩) (n + 1) cap) ∧ w' = (w.drew.setCells g ((i + 1) * 3) ((cur.take (n * 3)).drop (i * 3))).setCells g (i * 3) ys := by
  obtain ⟨i0, hi0, hz0, hzs, hzb⟩ := info_parts mInfoV
  have hmax : cap ≤ 9223372036854775807 := by have := h.max; unfold maxLen at this; omega
  have hlc : cur.length = cap * 3 := h.size
  have hcells := cells_blk hv
  have hov : ∀ lb cb, (callFunc 227 #[.slice (some ⟨vb, 0, none⟩) 1 1, .slice (some ⟨g, (i + 1) * 3, none⟩) lb cb]).run Tryz.prog w = .ok (.value (.bool false)) w := fun lb cb => by
    rw [run_callFunc_extern Tryz.func227 (by kernel_rfl) (by kernel_rfl) (by kernel_rfl) (e := Extern.SlicesOverlaps.overlaps #[22, 22] #[4]) (by kernel_rfl),
      Lib.run_overlaps_apart w 22 4 82 Tryz.underlying22 3 Tryz.sizeOf82 ⟨vb, 0, none⟩ ⟨g, (i + 1) * 3, none⟩ 1 1 lb cb hne 82 82 3 (cap * 3) (by simp [World.shape?, hv, hy]) (by simp [World.shape?, h.heap, hlc]) (by omega) (by simp [World.frozen?, hv]) (by simp [World.frozen?, hv])]
    rfl
  obtain ⟨news, hnews⟩ : ∃ news, news = (cur.take (n * 3)).drop (i * 3) := ⟨_, rfl⟩
  have hlen : news.length = (n - i) * 3 := by rw [hnews, List.length_drop, List.length_take]; omega
  have hget : ∀ t u, news[t]? = some u → cur[i * 3 + t]? = some u := by
    intro t u hu
    rw [hnews, List.getElem?_drop, List.getElem?_take] at hu
    split at hu
    · exact hu
    · cases hu
  have hB1 := h.drew.set ((i + 1) * 3) news (by rw [hlen]; omega)
  have hcp1 : ∀ ty dc sc, (Builtin.copy_ #[22, 22] ty #[.slice (some ⟨g, (i + 1) * 3, none⟩) (n - i) dc, .slice (some ⟨g, i * 3, none⟩) (n + 1 - i) sc]).run Tryz.prog w.drew = .ok (goInt ((n - i : Nat) : Int)) (w.drew.setCells g ((i + 1) * 3) news) := fun ty dc sc =>
    run_copy_k w.drew _ _ ty 82 i0 g ((i + 1) * 3) (n - i) dc ⟨g, i * 3, none⟩ (n + 1 - i) sc (n - i) news Tryz.underlying22 hi0 (by simp only [Nat.min_def]; split <;> omega) (by rw [hzs]; exact hlen)
      (fun j u hj => by rw [Addr.add_lit]; exact (h.cell _).trans (hget j u hj))
      (fun j hj => h.there (by omega)) (fun j hj => h.soft _) (fun u hu => by rw [hnews] at hu; exact h1 u (List.mem_of_mem_drop hu))
  obtain ⟨W1, hW1⟩ : ∃ W1, W1 = w.drew.setCells g ((i + 1) * 3) news := ⟨_, rfl⟩
  rw [← hW1] at hB1 hcp1
  have hv1 : W1.heap[vb]? = some (.cells ys.toArray 82 (0, 0)) := by
    rw [hW1]
    exact ((fr_setCells g (S := fun k => k = g) rfl news ((i + 1) * 3) w.drew).block vb (Array.getElem?_eq_some_iff.1 hv).1 hne).trans hv
  have hcp2 : ∀ ty dc, (Builtin.copy_ #[22, 22] ty #[.slice (some ⟨g, i * 3, none⟩) (n + 1 - i) dc, .slice (some ⟨vb, 0, none⟩) 1 1]).run Tryz.prog W1 = .ok (goInt 1) (W1.setCells g (i * 3) ys) := fun ty dc =>
    run_copy_k W1 _ _ ty 82 i0 g (i * 3) (n + 1 - i) dc ⟨vb, 0, none⟩ 1 1 1 ys Tryz.underlying22 hi0 (by simp only [Nat.min_def]; split <;> omega) (by rw [hzs, hy])
      (cells_blk hv1) (fun j hj => hB1.there (by omega)) (fun j hj => hB1.soft _) hy1
  have HE : Hid (W1 = w.drew.setCells g ((i + 1) * 3) news) := hW1
  have HC1 : Hid _ := hcp1
  have HOv : Hid _ := hov
  rw [← hnews]
  have hz2 : ¬ ((i : Int) = (n : Int)) := by omega
  have hin : i ≤ n := by omega
  have hic : i ≤ cap := by omega
  have htn : ((i : Int) + 1).toNat = i + 1 := by omega
  have hw1 : IntKind.i64.wrap ((i : Int) + 1) = (i : Int) + 1 := by rw [IntKind.wrap_i64]; omega
  have hb1 : (0 : Int) ≤ (i : Int) + 1 := by omega
  have hb6 : (i : Int) + 1 ≤ (n : Int) + 1 := by omega
  have htn2 : ((n : Int) + 1).toNat = n + 1 := by omega
  have hb2 : ¬ (cap = i + 1) := by omega
  have hb4 : ¬ (cap = i) := by omega
  have hb3 : (i : Int) ≤ (n : Int) + 1 := by omega
  have hb5 : ¬ ((cap : Int) < (n : Int) + 1) := by omega
  clear hW1 hB1 hget hnews hlen hlc h h1 hcp1 hcells hv1 hv
  go_enter Tryz.func185, Tryz.ntmps185
  go_wp2_with (simp only [hov])
  go_region_law (refine step_copy_run rfl _ _ 22 22 rfl (.slice (some ⟨g, (i + 1) * 3, none⟩) (n - i) (cap - (i + 1))) (.slice (some ⟨g, i * 3, none⟩) (n + 1 - i) (cap - i)) (by simp [Act.eval, Act.put]) (by simp [Act.eval, Act.put]) (HC1.out 3 (cap - (i + 1)) (cap - i)) ?_)
  go_wp2
  go_ret
  exact ⟨rfl, by rw [HE.out]⟩
set_option maxHeartbeats 4000000 in
set_option maxRecDepth 100000 in
/-- There is no room: a new row. -/
theorem insV_grow {w : World} {base g cap vb : Nat} {cur ys : List Value} (h : Blk w base 82 3 g cap cur) (n i : Nat) (hi : i < n) (hn : n ≤ cap) (hroom : cap < n + 1) (hbig : (n + 1) * 40 ≤ 140737488355328) (h1 : ∀ u ∈ cur.take (n * 3), u.oneCell' = true)
    (hv : w.heap[vb]? = some (.cells ys.toArray 82 (0, 0))) (hy : ys.length = 3) (hy1 : ∀ u ∈ ys, u.oneCell' = true) :
    Calls Tryz.prog 185 #[.slice (some ⟨g, 0, none⟩) n cap, .int .i64 i, .slice (some ⟨vb, 0, none⟩) 1 1] w fun e w' =>
      ∃ G zs, e = .returned (.slice (some ⟨w.heap.size, 0, none⟩) (n + 1) G) ∧ n + 1 ≤ G ∧ G ≤ maxLen ∧ ((cur.take (n * 3)).take (i * 3) ++ zs).length = G * 3 ∧
      w' = (((w.alloc (.cells ((cur.take (n * 3)).take (i * 3) ++ zs).toArray 82)).drew.setCells w.heap.size (i * 3) ys).drew).setCells w.heap.size ((i + 1) * 3) ((cur.take (n * 3)).drop (i * 3)) := by
  obtain ⟨i0, hi0, hz0, hzs, hzb⟩ := info_parts mInfoV
  have hmax : cap ≤ 9223372036854775807 := by have := h.max; unfold maxLen at this; omega
  have hlc : cur.length = cap * 3 := h.size
  obtain ⟨xs, hxs⟩ : ∃ xs, xs = cur.take (n * 3) := ⟨_, rfl⟩
  rw [← hxs] at h1 ⊢
  have hxl : xs.length = n * 3 := by rw [hxs, List.length_take]; omega
  have hget : ∀ (t : Nat) (u : Value), xs[t]? = some u → cur[t]? = some u := by
    intro t u hu
    rw [hxs, List.getElem?_take] at hu
    split at hu
    · exact hu
    · cases hu
  have hkk : (n : Int) + 1 - (i : Int) = ((n + 1 - i : Nat) : Int) := by omega
  have hik : i + (n + 1 - i) = n + 1 := by omega
  have hold : (Builtin.firstCells i0.size i (.slice (some ⟨g, 0, none⟩) i cap)).run Tryz.prog w.drew = .ok (xs.take (i * 3)).toArray w.drew := by
    rw [hzs]
    exact run_firstCells_some w.drew 3 i ⟨g, 0, none⟩ i cap (xs.take (i * 3)) (by rw [List.length_take]; omega) (fun j u hj => by
      rw [Addr.add_lit, Nat.zero_add]
      rw [List.getElem?_take] at hj
      split at hj
      · exact (h.cell _).trans (hget j u hj)
      · cases hj)
  have hrz : ∀ ty, (Builtin.append_ #[22, 3] ty #[.slice (some ⟨g, 0, none⟩) i cap, .int .i64 ((n : Int) + 1 - (i : Int))]).run Tryz.prog w =
      .ok (.slice (some ⟨w.heap.size, 0, none⟩) (n + 1) (grownCap w (n + 1) cap 82)) (w.drew.alloc (.cells ((xs.take (i * 3)).toArray ++ Builtin.zeroCells (.agg #[.int .i64 0, .int .i64 0, .slice none 0 0] : Value).cells (n + 1 - i) ++ Builtin.zeroCells (.agg #[.int .i64 0, .int .i64 0, .slice none 0 0] : Value).cells (grownCap w (n + 1) cap 82 - (n + 1))) 82)) := fun ty => by
    have h := Lib.run_append_grow_zeros w 22 3 ty 82 i0 _ .i64 .i64 Tryz.underlying22 Tryz.underlying3 hi0 hz0 (some ⟨g, 0, none⟩) i cap (xs.take (i * 3)) hold (n + 1 - i) (by omega) (by omega) (by omega) (by omega) (by rw [hzb]; omega) (by rw [hzb, hik]; exact growslice_fits hroom hbig)
    rw [hik] at h
    rw [hkk]
    exact h
  obtain ⟨G, hG⟩ : ∃ G, G = grownCap w (n + 1) cap 82 := ⟨_, rfl⟩
  rw [← hG] at hrz
  obtain ⟨zs, hzs'⟩ : ∃ zs : List Value, zs = (Builtin.zeroCells (.agg #[.int .i64 0, .int .i64 0, .slice none 0 0] : Value).cells (n + 1 - i)).toList ++ (Builtin.zeroCells (.agg #[.int .i64 0, .int .i64 0, .slice none 0 0] : Value).cells (G - (n + 1))).toList := ⟨_, rfl⟩
  have hrow : (xs.take (i * 3)).toArray ++ Builtin.zeroCells (.agg #[.int .i64 0, .int .i64 0, .slice none 0 0] : Value).cells (n + 1 - i) ++ Builtin.zeroCells (.agg #[.int .i64 0, .int .i64 0, .slice none 0 0] : Value).cells (G - (n + 1)) = (xs.take (i * 3) ++ zs).toArray := by
    rw [hzs']
    apply Array.ext'
    simp
  rw [hrow] at hrz
  have hGn : n + 1 ≤ G := by rw [hG]; exact grownCap_ge w _ _ _
  have hGm : G ≤ maxLen := by rw [hG]; exact grownCap_le_maxLen w (n + 1) cap 82 (by unfold maxLen; omega)
  have hG63 : G ≤ 9223372036854775807 := by unfold maxLen at hGm; omega
  have hRl : (xs.take (i * 3) ++ zs).length = G * 3 := by
    have hk : (.agg #[.int .i64 0, .int .i64 0, .slice none 0 0] : Value).cells.size = 3 := by decide
    rw [List.length_append, hzs', List.length_append, zc_len, zc_len, List.length_take, hk]
    omega
  obtain ⟨ROW, hROW⟩ : ∃ ROW, ROW = xs.take (i * 3) ++ zs := ⟨_, rfl⟩
  rw [← hROW] at hRl hrz
  have hB0 : Blk (w.alloc (.cells ROW.toArray 82)).drew w.heap.size 82 3 w.heap.size G ROW := ⟨Nat.le_refl _, heap_alloc_new w _, hGm, hRl⟩
  have hB1 := (hB0.set (i * 3) ys (by omega)).drew
  have hvl : vb < w.heap.size := (Array.getElem?_eq_some_iff.1 hv).1
  have hv0 : ((w.alloc (.cells ROW.toArray 82)).drew).heap[vb]? = some (.cells ys.toArray 82 (0, 0)) := (Below.heap_alloc w _ _ hvl).trans hv
  have hgl : g < w.heap.size := h.lt
  have hg1 : (((w.alloc (.cells ROW.toArray 82)).drew.setCells w.heap.size (i * 3) ys).drew).heap[g]? = some (.cells cur.toArray 82 (0, 0)) :=
    ((fr_setCells w.heap.size (S := fun k => k = w.heap.size) rfl ys (i * 3) (w.alloc (.cells ROW.toArray 82)).drew).block g (by show g < (w.alloc _).heap.size; rw [World.size_alloc]; omega) (by omega)).trans ((Below.heap_alloc w _ _ hgl).trans h.heap)
  have hcpA : ∀ ty dc, (Builtin.copy_ #[22, 22] ty #[.slice (some ⟨w.heap.size, i * 3, none⟩) (n + 1 - i) dc, .slice (some ⟨vb, 0, none⟩) 1 1]).run Tryz.prog ((w.alloc (.cells ROW.toArray 82)).drew) = .ok (goInt 1) (((w.alloc (.cells ROW.toArray 82)).drew).setCells w.heap.size (i * 3) ys) := fun ty dc =>
    run_copy_k ((w.alloc (.cells ROW.toArray 82)).drew) _ _ ty 82 i0 w.heap.size (i * 3) (n + 1 - i) dc ⟨vb, 0, none⟩ 1 1 1 ys Tryz.underlying22 hi0 (by simp only [Nat.min_def]; split <;> omega) (by rw [hzs, hy])
      (cells_blk hv0) (fun j hj => hB0.there (by omega)) (fun j hj => hB0.soft _) hy1
  have hcpB : ∀ ty dc sc, (Builtin.copy_ #[22, 22] ty #[.slice (some ⟨w.heap.size, (i + 1) * 3, none⟩) (n - i) dc, .slice (some ⟨g, i * 3, none⟩) (n - i) sc]).run Tryz.prog ((((w.alloc (.cells ROW.toArray 82)).drew).setCells w.heap.size (i * 3) ys).drew) = .ok (goInt ((n - i : Nat) : Int)) (((((w.alloc (.cells ROW.toArray 82)).drew).setCells w.heap.size (i * 3) ys).drew).setCells w.heap.size ((i + 1) * 3) (xs.drop (i * 3))) := fun ty dc sc =>
    run_copy_k ((((w.alloc (.cells ROW.toArray 82)).drew).setCells w.heap.size (i * 3) ys).drew) _ _ ty 82 i0 w.heap.size ((i + 1) * 3) (n - i) dc ⟨g, i * 3, none⟩ (n - i) sc (n - i) (xs.drop (i * 3)) Tryz.underlying22 hi0 (by simp only [Nat.min_def]; split <;> omega) (by rw [hzs, List.length_drop]; omega)
      (fun j u hj => by rw [Addr.add_lit]; simp only [World.cell?, hg1]; rw [List.getElem?_drop] at hj; simpa using hget _ u hj)
      (fun j hj => hB1.there (by rw [List.length_drop] at hj; omega)) (fun j hj => hB1.soft _) (fun u hu => h1 u (List.mem_of_mem_drop hu))
  have HA : Hid _ := hrz
  have HC2 : Hid _ := hcpB
  have HR : Hid (ROW = xs.take (i * 3) ++ zs) := hROW
  have HGm : Hid (G ≤ maxLen) := hGm
  have HRl : Hid (ROW.length = G * 3) := hRl
  have hz2 : ¬ ((i : Int) = (n : Int)) := by omega
  have hin : i ≤ n := by omega
  have hic : i ≤ cap := by omega
  have htn : ((i : Int) + 1).toNat = i + 1 := by omega
  have hw1 : IntKind.i64.wrap ((i : Int) + 1) = (i : Int) + 1 := by rw [IntKind.wrap_i64]; omega
  have hb1 : (0 : Int) ≤ (i : Int) + 1 := by omega
  have hb6 : (i : Int) + 1 ≤ (n : Int) + 1 := by omega
  have hGi : ¬ (G = i) := by omega
  have hGim : ¬ (G = i + 1) := by omega
  have hci : ¬ (cap = i) := by omega
  have hb3 : (i : Int) ≤ (n : Int) + 1 := by omega
  have hb5 : (cap : Int) < (n : Int) + 1 := by omega
  clear hrz hcpB hROW hRl hGm hB0 hB1 hv0 hg1 hG hzs' hrow hold hkk hik hget hxl hxs hlc h1 hv h
  go_enter Tryz.func185, Tryz.ntmps185
  go_wp2_with (at_builtin; refine Lib.wpList_append_run _ rfl _ _ _ _ rfl _ _ rfl rfl _ _ (HA.out _) ?_)
  go_region_law (refine step_copy_run rfl _ _ 22 22 rfl (.slice (some ⟨w.heap.size, (i + 1) * 3, none⟩) (n - i) (G - (i + 1))) (.slice (some ⟨g, i * 3, none⟩) (n - i) (cap - i)) (by simp [Act.eval, Act.put]) (by simp [Act.eval, Act.put]) (HC2.out 3 (G - (i + 1)) (cap - i)) ?_)
  go_wp2
  go_ret
  exact ⟨G, zs, rfl, hGn, HGm.out, by rw [← HR.out]; exact HRl.out, by rw [← HR.out]⟩
set_option maxHeartbeats 4000000 in
set_option maxRecDepth 100000 in
/-- At the end. -/
theorem insV_end {w : World} {base vb : Nat} {v : Value} {n : Nat} {xs ys : List Value} (h : w.ownsRow base 82 3 v n xs) (hbase : base ≤ w.heap.size) (hbig : (n + 1) * 40 ≤ 140737488355328)
    (hv : w.heap[vb]? = some (.cells ys.toArray 82 (0, 0))) (hy : ys.length = 3) (hy1 : ∀ u ∈ ys, u.oneCell' = true) :
    Calls Tryz.prog 185 #[v, .int .i64 n, .slice (some ⟨vb, 0, none⟩) 1 1] w fun e w' =>
      ∃ v', e = .returned v' ∧ (v'.ownBlock = v.ownBlock ∨ v'.ownBlock = some w.heap.size) ∧ w'.ownsRow base 82 3 v' (n + 1) (xs ++ ys) ∧ Fr w w' (fun k => v.ownBlock = some k) := by
  obtain ⟨i0, hi0, hz0, hzs, hzb⟩ := info_parts mInfoV
  have HO : Hid _ := h
  have HV : Hid _ := cells_blk hv
  have HY : Hid (ys.length = 1 * 3) := by show _ = _; rw [hy]
  have HY1 : Hid _ := hy1
  have HB : Hid (base ≤ w.heap.size) := hbase
  clear hv hy hy1
  rcases h.2 with ⟨rfl, rfl⟩ | ⟨g, cap, cur, rfl, _, _, hnc, hcm, _⟩
  · clear h
    go_enter Tryz.func185, Tryz.ntmps185
    go_wp2_with (at_builtin; refine wpList_append_own_at _ rfl _ _ 22 rfl base 82 i0 (.agg #[.int .i64 0, .int .i64 0, .slice none 0 0]) 3 40 Tryz.underlying22 hi0 hz0 hzs hzb rfl (by decide) _ _ _ rfl HO.out ⟨vb, 0, none⟩ 1 1 ys rfl HY.out HV.out HY1.out (by decide) (by omega) HB.out ?_)
    intro v' w1 hown hgrow _ hat
    obtain ⟨ao', m', c', rfl⟩ := own_any hown
    have HW : Hid _ := hown
    clear hown
    go_wp2
    go_ret
    exact ⟨_, rfl, hat, HW.out, Fr.grown hgrow (fun k hk => hk)⟩
  · clear h
    have hcm' : cap ≤ 9223372036854775807 := by unfold maxLen at hcm; omega
    clear hcm
    go_enter Tryz.func185, Tryz.ntmps185
    go_wp2_with (at_builtin; refine wpList_append_own_at _ rfl _ _ 22 rfl base 82 i0 (.agg #[.int .i64 0, .int .i64 0, .slice none 0 0]) 3 40 Tryz.underlying22 hi0 hz0 hzs hzb rfl (by decide) _ _ _ rfl HO.out ⟨vb, 0, none⟩ 1 1 ys rfl HY.out HV.out HY1.out (by unfold maxLen; omega) (by omega) HB.out ?_)
    all_goals
      intro v' w1 hown hgrow _ hat
      obtain ⟨ao', m', c', rfl⟩ := own_any hown
      have HW : Hid _ := hown
      clear hown
      go_wp2
      go_ret
      exact ⟨_, rfl, hat, HW.out, Fr.grown hgrow (fun k hk => hk)⟩
/-- slices.Insert of one element into a row of one's own. -/
theorem insV_any {w : World} {base vb : Nat} {v : Value} {n : Nat} {xs ys : List Value} (h : w.ownsRow base 82 3 v n xs) (h1 : ∀ u ∈ xs, u.oneCell' = true) (i : Nat) (hi : i ≤ n) (hbase : base ≤ w.heap.size) (hbig : (n + 1) * 40 ≤ 140737488355328)
    (hv : w.heap[vb]? = some (.cells ys.toArray 82 (0, 0))) (hy : ys.length = 3) (hy1 : ∀ u ∈ ys, u.oneCell' = true) (hne : v.ownBlock ≠ some vb) :
    Calls Tryz.prog 185 #[v, .int .i64 i, .slice (some ⟨vb, 0, none⟩) 1 1] w fun e w' =>
      ∃ v', e = .returned v' ∧ (v'.ownBlock = v.ownBlock ∨ v'.ownBlock = some w.heap.size) ∧ w'.ownsRow base 82 3 v' (n + 1) (xs.take (i * 3) ++ ys ++ xs.drop (i * 3)) ∧ Fr w w' (fun k => v.ownBlock = some k) := by
  have hxl := h.1
  by_cases hin : i = n
  · subst hin
    have e : xs.take (i * 3) ++ ys ++ xs.drop (i * 3) = xs ++ ys := by rw [List.take_of_length_le (by omega), List.drop_of_length_le (by omega), List.append_nil]
    rw [e]
    exact insV_end h hbase hbig hv hy hy1
  · obtain ⟨g, cap, cur, rfl, hn, hB, rfl⟩ := own_blk h (by omega)
    have hcl := hB.size
    have hnk : n * 3 ≤ cap * 3 := Nat.mul_le_mul_right _ hn
    have hlen : ((cur.take (n * 3)).drop (i * 3)).length = (n - i) * 3 := by rw [List.length_drop, hxl]; omega
    by_cases hroom : n + 1 ≤ cap
    · refine (insV_shift hB n i (by omega) hroom h1 hv hy hy1 (fun e => hne (by rw [e]; rfl))).mono ?_
      rintro e w' ⟨rfl, rfl⟩
      have hB2 := (hB.drew.set ((i + 1) * 3) _ (by rw [hlen]; omega)).set (i * 3) ys (by omega)
      refine ⟨_, rfl, .inl rfl, ?_, ?_⟩
      · have := hB2.own hroom
        rw [ins_list (k := 3) hi (by omega) hy] at this
        exact this
      · exact ((Fr.drew w _).trans (fr_setCells g (S := fun k => Value.ownBlock (.slice (some ⟨g, 0, none⟩) n cap) = some k) rfl _ _ _) (fun _ _ h => h)).trans (fr_setCells g (S := fun k => Value.ownBlock (.slice (some ⟨g, 0, none⟩) n cap) = some k) rfl _ _ _) (fun _ _ h => h)
    · refine (insV_grow hB n i (by omega) hn (by omega) hbig h1 hv hy hy1).mono ?_
      rintro e w' ⟨G, zs, rfl, hG, hGm, hl, rfl⟩
      have hB0 : Blk (w.alloc (.cells ((cur.take (n * 3)).take (i * 3) ++ zs).toArray 82)).drew base 82 3 w.heap.size G ((cur.take (n * 3)).take (i * 3) ++ zs) := ⟨hbase, heap_alloc_new w _, hGm, hl⟩
      have hB2 := (hB0.set (i * 3) ys (by omega)).drew.set ((i + 1) * 3) ((cur.take (n * 3)).drop (i * 3)) (by rw [hlen]; omega)
      refine ⟨_, rfl, .inr rfl, ?_, ?_⟩
      · have := hB2.own hG
        rw [grow_list (k := 3) hi hxl (by omega) hy] at this
        exact this
      · have f0 : Fr w (w.alloc (.cells ((cur.take (n * 3)).take (i * 3) ++ zs).toArray 82)).drew (fun k => Value.ownBlock (.slice (some ⟨g, 0, none⟩) n cap) = some k) := (Fr.alloc w _ _).trans (Fr.drew _ _) (fun _ _ h => h)
        have f1 := f0.trans (fr_setCells w.heap.size (S := fun k => k = w.heap.size) rfl ys (i * 3) _) (fun k hk e => by omega)
        exact (f1.trans (Fr.drew _ (fun _ => False)) (fun _ _ h => h.elim)).trans (fr_setCells w.heap.size (S := fun k => k = w.heap.size) rfl _ ((i + 1) * 3) _) (fun k hk e => by omega)
end Go.Proofs.YtnhijofnhflklaaGreat
end

section
/- What a request does to a graph: on plain lists. -/
namespace Go.Proofs.YtnhijofnhflklaaGreat
open Go.RowKit
/-- What a request does to its vertex. -/
def doV (v : Vx) (m : Mu) : List Vx × Bool :=
  if m.k = 2 then ([], true)
  else if m.k = 1 then (if foundB (ends v.es) m.t then ([⟨v.id, v.val, v.es.take (findN (ends v.es) m.t) ++ v.es.drop (findN (ends v.es) m.t + 1)⟩], true) else ([v], false))
  else if m.k = 4 then (if foundB (ends v.es) m.t then ([v], false) else ([⟨v.id, v.val, v.es.take (findN (ends v.es) m.t) ++ ⟨m.t, m.v⟩ :: v.es.drop (findN (ends v.es) m.t)⟩], true))
  else ([v], false)
/-- What a request does where its vertex is not there. -/
def noV (m : Mu) : List Vx × Bool := if m.k = 3 then ([⟨m.i, m.v, []⟩], true) else ([], false)
/-- What a request does to a graph, and whether it changed something. -/
def doG (G : List Vx) (m : Mu) : List Vx × Bool :=
  if foundB (ids G) m.i then
    match G.drop (findN (ids G) m.i) with
    | [] => (G, false)
    | v :: B => (G.take (findN (ids G) m.i) ++ ((doV v m).1 ++ B), (doV v m).2)
  else (G.take (findN (ids G) m.i) ++ ((noV m).1 ++ G.drop (findN (ids G) m.i)), (noV m).2)
/-- Numbers ahead of x, and numbers that are not. -/
theorem findN_app {A B : List Int} {x : Int} (hA : ∀ a ∈ A, a < x) (hB : ∀ b ∈ B, ¬ b < x) : findN (A ++ B) x = A.length := by
  refine findN_eq (by simp) (fun j h hj => ?_) (fun j h hj => ?_)
  · rw [List.getElem_append_left hj]
    exact hA _ (List.getElem_mem _)
  · rw [List.getElem_append_right hj]
    exact hB _ (List.getElem_mem _)
theorem foundB_app {A B : List Int} {x : Int} (hA : ∀ a ∈ A, a < x) (hB : ∀ b ∈ B, ¬ b < x) : foundB (A ++ B) x = (B.head? == some x) := by
  unfold foundB
  rw [findN_app hA hB]
  congr 1
  rw [List.getElem?_append_right (Nat.le_refl _), Nat.sub_self]
  cases B <;> rfl
theorem rise_pw {l : List Int} : Rise l ↔ l.Pairwise (· < ·) := by
  constructor
  · intro h
    rw [List.pairwise_iff_getElem]
    intro i j hi hj hij
    exact h.lt j i hj hij
  · intro h j hj
    exact List.pairwise_iff_getElem.1 h j (j + 1) (by omega) hj (by omega)
/-- A graph whose vertices and edges rise. -/
structure Fine (G : List Vx) : Prop where
  ids : (ids G).Pairwise (· < ·)
  es : ∀ v ∈ G, (ends v.es).Pairwise (· < ·)
theorem ids_app (A B : List Vx) : ids (A ++ B) = ids A ++ ids B := by simp [ids]
theorem ids_cons (v : Vx) (B : List Vx) : ids (v :: B) = v.id :: ids B := rfl
theorem ends_app (A B : List Ed) : ends (A ++ B) = ends A ++ ends B := by simp [ends]
theorem ends_cons (v : Ed) (B : List Ed) : ends (v :: B) = v.t :: ends B := rfl
/-- Of numbers that rise: those below x, those that are not. -/
theorem take_lt (l : List Int) (x : Int) : ∀ a ∈ l.take (findN l x), a < x := by
  intro a ha
  obtain ⟨j, hj, rfl⟩ := List.getElem_of_mem ha
  rw [List.getElem_take]
  obtain ⟨h', h''⟩ := findN_lt l x j (by rw [List.length_take] at hj; omega)
  exact h''
theorem drop_ge {l : List Int} (hr : l.Pairwise (· < ·)) (x : Int) : ∀ b ∈ l.drop (findN l x), x ≤ b := by
  intro b hb
  obtain ⟨j, hj, rfl⟩ := List.getElem_of_mem hb
  rw [List.length_drop] at hj
  rw [List.getElem_drop]
  have h0 := findN_stop l x (by omega)
  by_cases e : j = 0
  · subst e; simp only [Nat.add_zero]; omega
  · have := List.pairwise_iff_getElem.1 hr (findN l x) (findN l x + j) (by omega) (by omega) (by omega)
    omega
theorem ids_take (G : List Vx) (n : Nat) : (ids G).take n = ids (G.take n) := by simp [ids, List.map_take]
theorem ids_drop (G : List Vx) (n : Nat) : (ids G).drop n = ids (G.drop n) := by simp [ids, List.map_drop]
theorem ends_take (G : List Ed) (n : Nat) : (ends G).take n = ends (G.take n) := by simp [ends, List.map_take]
theorem ends_drop (G : List Ed) (n : Nat) : (ends G).drop n = ends (G.drop n) := by simp [ends, List.map_drop]
/-- A vertex is there, or not: how the list falls apart. -/
theorem split_ids {G : List Vx} (hr : (ids G).Pairwise (· < ·)) (x : Int) :
    (∃ A v B, G = A ++ v :: B ∧ v.id = x ∧ (∀ a ∈ A, a.id < x) ∧ (∀ b ∈ B, x < b.id) ∧ findN (ids G) x = A.length ∧ foundB (ids G) x = true) ∨
    (∃ A B, G = A ++ B ∧ (∀ a ∈ A, a.id < x) ∧ (∀ b ∈ B, x < b.id) ∧ findN (ids G) x = A.length ∧ foundB (ids G) x = false) := by
  have hA : ∀ a ∈ G.take (findN (ids G) x), a.id < x := fun a ha => take_lt (ids G) x a.id (by rw [ids_take]; exact List.mem_map_of_mem ha)
  have hB : ∀ b ∈ G.drop (findN (ids G) x), x ≤ b.id := fun b hb => drop_ge hr x b.id (by rw [ids_drop]; exact List.mem_map_of_mem hb)
  have hl : findN (ids G) x = (G.take (findN (ids G) x)).length := by
    have := findN_le (ids G) x
    rw [ids_len] at this
    rw [List.length_take]; omega
  have hG : G = G.take (findN (ids G) x) ++ G.drop (findN (ids G) x) := (List.take_append_drop _ _).symm
  have hf : foundB (ids G) x = ((ids (G.drop (findN (ids G) x))).head? == some x) := by
    conv => lhs; rw [hG, ids_app]
    exact foundB_app (fun a ha => by obtain ⟨v, hv, rfl⟩ := List.mem_map.1 ha; exact hA v hv) (fun b hb => by obtain ⟨v, hv, rfl⟩ := List.mem_map.1 hb; have := hB v hv; omega)
  cases hD : G.drop (findN (ids G) x) with
  | nil =>
    rw [hD] at hf hG
    exact .inr ⟨G.take (findN (ids G) x), [], hG, hA, fun b hb => (by cases hb), hl, by rw [hf]; rfl⟩
  | cons v B =>
    have hv := hB v (by rw [hD]; simp)
    have hr' := hr
    rw [hG, ids_app, List.pairwise_append, hD, ids_cons, List.pairwise_cons] at hr'
    rw [hD] at hf hG
    rw [ids_cons, List.head?_cons] at hf
    have hBB : ∀ b ∈ B, v.id < b.id := fun b hb => hr'.2.1.1 b.id (List.mem_map_of_mem hb)
    by_cases e : v.id = x
    · exact .inl ⟨_, v, B, hG, e, hA, fun b hb => by rw [← e]; exact hBB b hb, hl, by rw [hf, e]; simp⟩
    · refine .inr ⟨_, v :: B, hG, hA, fun b hb => ?_, hl, by rw [hf]; simpa using e⟩
      rcases List.mem_cons.1 hb with rfl | hb
      · omega
      · have := hBB b hb; omega
theorem split_ends {G : List Ed} (hr : (ends G).Pairwise (· < ·)) (x : Int) :
    (∃ A v B, G = A ++ v :: B ∧ v.t = x ∧ (∀ a ∈ A, a.t < x) ∧ (∀ b ∈ B, x < b.t) ∧ findN (ends G) x = A.length ∧ foundB (ends G) x = true) ∨
    (∃ A B, G = A ++ B ∧ (∀ a ∈ A, a.t < x) ∧ (∀ b ∈ B, x < b.t) ∧ findN (ends G) x = A.length ∧ foundB (ends G) x = false) := by
  have hA : ∀ a ∈ G.take (findN (ends G) x), a.t < x := fun a ha => take_lt (ends G) x a.t (by rw [ends_take]; exact List.mem_map_of_mem ha)
  have hB : ∀ b ∈ G.drop (findN (ends G) x), x ≤ b.t := fun b hb => drop_ge hr x b.t (by rw [ends_drop]; exact List.mem_map_of_mem hb)
  have hl : findN (ends G) x = (G.take (findN (ends G) x)).length := by
    have := findN_le (ends G) x
    rw [ends_len] at this
    rw [List.length_take]; omega
  have hG : G = G.take (findN (ends G) x) ++ G.drop (findN (ends G) x) := (List.take_append_drop _ _).symm
  have hf : foundB (ends G) x = ((ends (G.drop (findN (ends G) x))).head? == some x) := by
    conv => lhs; rw [hG, ends_app]
    exact foundB_app (fun a ha => by obtain ⟨v, hv, rfl⟩ := List.mem_map.1 ha; exact hA v hv) (fun b hb => by obtain ⟨v, hv, rfl⟩ := List.mem_map.1 hb; have := hB v hv; omega)
  cases hD : G.drop (findN (ends G) x) with
  | nil =>
    rw [hD] at hf hG
    exact .inr ⟨G.take (findN (ends G) x), [], hG, hA, fun b hb => (by cases hb), hl, by rw [hf]; rfl⟩
  | cons v B =>
    have hv := hB v (by rw [hD]; simp)
    have hr' := hr
    rw [hG, ends_app, List.pairwise_append, hD, ends_cons, List.pairwise_cons] at hr'
    rw [hD] at hf hG
    rw [ends_cons, List.head?_cons] at hf
    have hBB : ∀ b ∈ B, v.t < b.t := fun b hb => hr'.2.1.1 b.t (List.mem_map_of_mem hb)
    by_cases e : v.t = x
    · exact .inl ⟨_, v, B, hG, e, hA, fun b hb => by rw [← e]; exact hBB b hb, hl, by rw [hf, e]; simp⟩
    · refine .inr ⟨_, v :: B, hG, hA, fun b hb => ?_, hl, by rw [hf]; simpa using e⟩
      rcases List.mem_cons.1 hb with rfl | hb
      · omega
      · have := hBB b hb; omega
theorem doG_there {A B : List Vx} {v : Vx} {m : Mu} (hv : v.id = m.i) (hA : ∀ a ∈ A, a.id < m.i) (hB : ∀ b ∈ B, m.i < b.id) : doG (A ++ v :: B) m = (A ++ ((doV v m).1 ++ B), (doV v m).2) := by
  have hA' : ∀ a ∈ ids A, a < m.i := fun a ha => by obtain ⟨y, hy, rfl⟩ := List.mem_map.1 ha; exact hA y hy
  have hB' : ∀ b ∈ ids (v :: B), ¬ b < m.i := fun b hb => by
    rw [ids_cons, List.mem_cons] at hb
    rcases hb with rfl | hb
    · omega
    · obtain ⟨y, hy, rfl⟩ := List.mem_map.1 hb; have := hB y hy; omega
  have e1 : findN (ids (A ++ v :: B)) m.i = A.length := by rw [ids_app, findN_app hA' hB', ids_len]
  have e2 : foundB (ids (A ++ v :: B)) m.i = true := by rw [ids_app, foundB_app hA' hB', ids_cons, List.head?_cons, hv]; simp
  unfold doG
  rw [if_pos e2, e1, List.drop_left, List.take_left]
theorem doG_none {A B : List Vx} {m : Mu} (hA : ∀ a ∈ A, a.id < m.i) (hB : ∀ b ∈ B, m.i < b.id) : doG (A ++ B) m = (A ++ ((noV m).1 ++ B), (noV m).2) := by
  have hA' : ∀ a ∈ ids A, a < m.i := fun a ha => by obtain ⟨y, hy, rfl⟩ := List.mem_map.1 ha; exact hA y hy
  have hB' : ∀ b ∈ ids B, ¬ b < m.i := fun b hb => by
    obtain ⟨y, hy, rfl⟩ := List.mem_map.1 hb; have := hB y hy; omega
  have e1 : findN (ids (A ++ B)) m.i = A.length := by rw [ids_app, findN_app hA' hB', ids_len]
  have e2 : foundB (ids (A ++ B)) m.i = false := by
    rw [ids_app, foundB_app hA' hB']
    cases B with
    | nil => rfl
    | cons y B => have := hB y (by simp); rw [ids_cons, List.head?_cons]; simp; omega
  unfold doG
  rw [if_neg (by rw [e2]; simp), e1, List.drop_left, List.take_left]
/-- What a request makes of its vertex: of the same number, its edges rise. -/
theorem doV_ok {v : Vx} {m : Mu} (h : (ends v.es).Pairwise (· < ·)) : (doV v m).1.length ≤ 1 ∧ ∀ y ∈ (doV v m).1, y.id = v.id ∧ (ends y.es).Pairwise (· < ·) ∧ y.es.length ≤ v.es.length + 1 := by
  unfold doV
  split
  · exact ⟨by simp, fun y hy => (by cases hy)⟩
  · split
    · split
      · refine ⟨by simp, fun y hy => ?_⟩
        rw [List.mem_singleton] at hy
        subst hy
        refine ⟨rfl, ?_, by simp only [List.length_append, List.length_take, List.length_drop]; omega⟩
        simp only
        rw [ends_app, ← ends_take, ← ends_drop]
        refine h.sublist ?_
        conv => rhs; rw [← List.take_append_drop (findN (ends v.es) m.t) (ends v.es)]
        refine List.Sublist.append (List.Sublist.refl _) ?_
        rw [← List.drop_drop]
        exact List.drop_sublist _ _
      · exact ⟨by simp, fun y hy => by rw [List.mem_singleton] at hy; subst hy; exact ⟨rfl, h, by omega⟩⟩
    · split
      · split
        · exact ⟨by simp, fun y hy => by rw [List.mem_singleton] at hy; subst hy; exact ⟨rfl, h, by omega⟩⟩
        · rename_i hn
          refine ⟨by simp, fun y hy => ?_⟩
          rw [List.mem_singleton] at hy
          subst hy
          refine ⟨rfl, ?_, by simp only [List.length_append, List.length_take, List.length_cons, List.length_drop]; omega⟩
          rcases split_ends h m.t with ⟨A, y, B, h1, h2, h3, h4, h5, h6⟩ | ⟨A, B, h1, h3, h4, h5, h6⟩
          · rw [h6] at hn; simp at hn
          · simp only
            rw [h5, h1, List.take_left, List.drop_left, ends_app, ends_cons]
            rw [h1, ends_app, List.pairwise_append] at h
            rw [List.pairwise_append, List.pairwise_cons]
            refine ⟨h.1, ⟨fun b hb => ?_, h.2.1⟩, fun a ha b hb => ?_⟩
            · obtain ⟨y, hy, rfl⟩ := List.mem_map.1 hb; exact h4 y hy
            · rcases List.mem_cons.1 hb with rfl | hb
              · obtain ⟨y, hy, rfl⟩ := List.mem_map.1 ha; exact h3 y hy
              · exact h.2.2 a ha b hb
      · exact ⟨by simp, fun y hy => by rw [List.mem_singleton] at hy; subst hy; exact ⟨rfl, h, by omega⟩⟩
/-- What stands in a vertex's place. -/
theorem fine_put {A B C : List Vx} {x : Int} (hA : ∀ a ∈ A, a.id < x) (hB : ∀ b ∈ B, x < b.id) (hC1 : C.length ≤ 1) (hC : ∀ y ∈ C, y.id = x ∧ (ends y.es).Pairwise (· < ·)) (hA1 : Fine A) (hB1 : Fine B) : Fine (A ++ (C ++ B)) := by
  refine ⟨?_, fun v hv => ?_⟩
  · rw [ids_app, ids_app, List.pairwise_append, List.pairwise_append]
    refine ⟨hA1.ids, ⟨?_, hB1.ids, fun a ha b hb => ?_⟩, fun a ha b hb => ?_⟩
    · match C, hC1 with
      | [], _ => exact List.Pairwise.nil
      | [y], _ => exact List.pairwise_singleton _ _
    · obtain ⟨y, hy, rfl⟩ := List.mem_map.1 ha
      obtain ⟨z, hz, rfl⟩ := List.mem_map.1 hb
      rw [(hC y hy).1]
      exact hB z hz
    · obtain ⟨y, hy, rfl⟩ := List.mem_map.1 ha
      have := hA y hy
      rcases List.mem_append.1 hb with hb | hb
      · obtain ⟨z, hz, rfl⟩ := List.mem_map.1 hb
        rw [(hC z hz).1]; exact this
      · obtain ⟨z, hz, rfl⟩ := List.mem_map.1 hb
        have := hB z hz; omega
  · rcases List.mem_append.1 hv with h | h
    · exact hA1.es v h
    · rcases List.mem_append.1 h with h | h
      · exact (hC v h).2
      · exact hB1.es v h
theorem Fine.left {A B : List Vx} (h : Fine (A ++ B)) : Fine A := ⟨by have := h.ids; rw [ids_app, List.pairwise_append] at this; exact this.1, fun v hv => h.es v (List.mem_append_left _ hv)⟩
theorem Fine.right {A B : List Vx} (h : Fine (A ++ B)) : Fine B := ⟨by have := h.ids; rw [ids_app, List.pairwise_append] at this; exact this.2.1, fun v hv => h.es v (List.mem_append_right _ hv)⟩
theorem noV_ok (m : Mu) : (noV m).1.length ≤ 1 ∧ ∀ y ∈ (noV m).1, y.id = m.i ∧ y.es = [] := by
  unfold noV
  split
  · exact ⟨by simp, fun y hy => by rw [List.mem_singleton] at hy; subst hy; exact ⟨rfl, rfl⟩⟩
  · exact ⟨by simp, fun y hy => (by cases hy)⟩
/-- How great a graph is at most. -/
def Up (n : Nat) (G : List Vx) : Prop := G.length ≤ n ∧ ∀ v ∈ G, v.es.length ≤ n
/-- How a request's work falls apart. -/
theorem doG_form {G : List Vx} (hf : Fine G) (m : Mu) :
    (∃ A v B, G = A ++ v :: B ∧ v.id = m.i ∧ (∀ a ∈ A, a.id < m.i) ∧ (∀ b ∈ B, m.i < b.id) ∧ doG G m = (A ++ ((doV v m).1 ++ B), (doV v m).2)) ∨
    (∃ A B, G = A ++ B ∧ (∀ a ∈ A, a.id < m.i) ∧ (∀ b ∈ B, m.i < b.id) ∧ doG G m = (A ++ ((noV m).1 ++ B), (noV m).2)) := by
  rcases split_ids hf.ids m.i with ⟨A, v, B, h1, h2, h3, h4, _, _⟩ | ⟨A, B, h1, h3, h4, _, _⟩
  · exact .inl ⟨A, v, B, h1, h2, h3, h4, by rw [h1]; exact doG_there h2 h3 h4⟩
  · exact .inr ⟨A, B, h1, h3, h4, by rw [h1]; exact doG_none h3 h4⟩
theorem doG_fine {G : List Vx} (hf : Fine G) (m : Mu) : Fine (doG G m).1 := by
  rcases doG_form hf m with ⟨A, v, B, h1, h2, h3, h4, e⟩ | ⟨A, B, h1, h3, h4, e⟩
  · rw [e]
    rw [h1] at hf
    have hv := doV_ok (m := m) (hf.es v (by simp))
    exact fine_put h3 h4 hv.1 (fun y hy => ⟨(hv.2 y hy).1.trans h2, (hv.2 y hy).2.1⟩) hf.left (Fine.right (A := [v]) hf.right)
  · rw [e]
    rw [h1] at hf
    exact fine_put h3 h4 (noV_ok m).1 (fun y hy => ⟨((noV_ok m).2 y hy).1, by rw [((noV_ok m).2 y hy).2]; exact List.Pairwise.nil⟩) hf.left hf.right
theorem doG_up {G : List Vx} (hf : Fine G) (m : Mu) {n : Nat} (h : Up n G) : Up (n + 1) (doG G m).1 := by
  rcases doG_form hf m with ⟨A, v, B, h1, h2, h3, h4, e⟩ | ⟨A, B, h1, h3, h4, e⟩
  · rw [e]
    rw [h1] at hf h
    have hv := doV_ok (m := m) (hf.es v (by simp))
    refine ⟨?_, fun y hy => ?_⟩
    · have := h.1
      simp only [List.length_append, List.length_cons] at this ⊢
      omega
    · rcases List.mem_append.1 hy with hy | hy
      · have := h.2 y (by simp [hy]); omega
      · rcases List.mem_append.1 hy with hy | hy
        · have := h.2 v (by simp); have := (hv.2 y hy).2.2; omega
        · have := h.2 y (by simp [hy]); omega
  · rw [e]
    rw [h1] at h
    refine ⟨?_, fun y hy => ?_⟩
    · have := h.1
      have := (noV_ok m).1
      simp only [List.length_append] at *
      omega
    · rcases List.mem_append.1 hy with hy | hy
      · have := h.2 y (by simp [hy]); omega
      · rcases List.mem_append.1 hy with hy | hy
        · rw [((noV_ok m).2 y hy).2]; simp
        · have := h.2 y (by simp [hy]); omega
/-- One request more. -/
def stepU (s : List Vx × Nat) (m : Mu) : List Vx × Nat := ((doG s.1 m).1, s.2 + if (doG s.1 m).2 then 1 else 0)
def runU (s : List Vx × Nat) (l : List Mu) : List Vx × Nat := l.foldl stepU s
/-- The graph behind all requests, and how many changed something. -/
def appG (G : List Vx) (l : List Mu) : List Vx × Nat := runU (G, 0) (thatC l)
theorem runU_snoc (s : List Vx × Nat) (l : List Mu) (m : Mu) : runU s (l ++ [m]) = stepU (runU s l) m := by unfold runU; rw [List.foldl_append]; rfl
theorem runU_fine {s : List Vx × Nat} (h : Fine s.1) : ∀ l, Fine (runU s l).1 := by
  intro l
  induction l generalizing s with
  | nil => exact h
  | cons m l ih => exact ih (s := stepU s m) (doG_fine h m)
theorem runU_up {s : List Vx × Nat} (h : Fine s.1) {n : Nat} (hu : Up n s.1) : ∀ l, Up (n + l.length) (runU s l).1 := by
  intro l
  induction l generalizing s n with
  | nil => exact hu
  | cons m l ih =>
    have := ih (s := stepU s m) (doG_fine h m) (doG_up h m hu)
    rw [List.length_cons, show n + (l.length + 1) = n + 1 + l.length by omega]
    exact this
theorem appG_up {G : List Vx} (h : Fine G) {n : Nat} (hu : Up n G) (l : List Mu) : Up (n + l.length) (appG G l).1 := by
  have := runU_up (s := (G, 0)) h hu (thatC l)
  have h2 := thatC_len l
  unfold appG
  exact ⟨by have := this.1; omega, fun v hv => by have := this.2 v hv; omega⟩
end Go.Proofs.YtnhijofnhflklaaGreat
end
