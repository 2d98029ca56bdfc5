/- slices.Insert of one request (the same walk as that of vertices in MuIns). -/
import Derived.Test.YtdnakakichblgaaMuRow
import Derived.Test.YtdnakakichblgaaSsFind
import Derived.Test.YtdnakakichblgaaWriterW
import Derived.Test.YtdnakakichblgaaChecked
import Derived.Deep.RegionLaw
import Derived.WalkKit
import Derived.Lib.Overlaps
import Derived.Laws.Externs
import Derived.Maps.AppendAt
namespace Go.Proofs.Ytdnakakichblgaa
open Go.RowKit
theorem mInfoQ : (Try.prog.info? 60).map (fun i => (i.zero, i.size, i.bytes)) = some (some (.agg #[.int .i64 0, .int .i64 0, .string (str [])]), 3, 32) := by kernel_rfl
/-- What stands behind an insertion in place. -/
theorem ins_list' {cur ys : List Value} {N p k : Nat} (hp : p ≤ N) (hc : N + k ≤ cur.length) (hy : ys.length = k) :
    (over (over cur (p + k) ((cur.take N).drop p)) p ys).take (N + k) = (cur.take N).take p ++ ys ++ (cur.take N).drop p := by
  obtain ⟨D, hD⟩ : ∃ D, D = (cur.take N).drop p := ⟨_, rfl⟩
  have hl : D.length = N - p := by rw [hD, List.length_drop, List.length_take]; omega
  rw [← hD]
  have hd : (over cur (p + k) D).drop (p + k) = D ++ cur.drop (p + k + D.length) := by
    unfold over
    rw [List.append_assoc, List.drop_left' (by rw [List.length_take]; omega)]
  have ht : (over cur (p + k) D).take p = cur.take p := over_take_lo _ _ _ (by omega) (by omega)
  show ((over cur (p + k) D).take p ++ ys ++ (over cur (p + k) D).drop (p + ys.length)).take (N + k) = _
  rw [ht, hy, hd, List.take_take, Nat.min_eq_left hp, ← List.append_assoc, List.take_left' (by rw [List.length_append, List.length_append, List.length_take]; omega)]
theorem ins_list {cur ys : List Value} {n i k : Nat} (hi : i ≤ n) (hc : (n + 1) * k ≤ cur.length) (hy : ys.length = k) :
    (over (over cur ((i + 1) * k) ((cur.take (n * k)).drop (i * k))) (i * k) ys).take ((n + 1) * k) = (cur.take (n * k)).take (i * k) ++ ys ++ (cur.take (n * k)).drop (i * k) := by
  have e1 : i * k ≤ n * k := Nat.mul_le_mul_right k hi
  rw [Nat.succ_mul] at hc
  rw [Nat.succ_mul, Nat.succ_mul]
  exact ins_list' e1 hc hy
theorem grow_list' {xs zs ys : List Value} {N p k : Nat} (hp : p ≤ N) (hx : xs.length = N) (hz : N + k ≤ (xs.take p ++ zs).length) (hy : ys.length = k) :
    (over (over (xs.take p ++ zs) p ys) (p + k) (xs.drop p)).take (N + k) = xs.take p ++ ys ++ xs.drop p := by
  have hl := over_len (xs.take p ++ zs) p ys (by omega)
  have h5 : N + k = (p + k) + (xs.drop p).length := by rw [List.length_drop]; omega
  have e : (over (xs.take p ++ zs) p ys).take (p + k) = xs.take p ++ ys := by
    rw [← hy, over_take_at _ _ _ (by omega), List.take_left' (by rw [List.length_take]; omega)]
  rw [h5, over_take_at _ _ _ (by omega), e]
theorem grow_list {xs zs ys : List Value} {n i k : Nat} (hi : i ≤ n) (hx : xs.length = n * k) (hz : (n + 1) * k ≤ (xs.take (i * k) ++ zs).length) (hy : ys.length = k) :
    (over (over (xs.take (i * k) ++ zs) (i * k) ys) ((i + 1) * k) (xs.drop (i * k))).take ((n + 1) * k) = xs.take (i * k) ++ ys ++ xs.drop (i * k) := by
  have e1 : i * k ≤ n * k := Nat.mul_le_mul_right k hi
  rw [Nat.succ_mul] at hz
  rw [Nat.succ_mul, Nat.succ_mul]
  exact grow_list' e1 hx hz hy
theorem cells_blk {w : World} {b : Nat} {t : TypeId} {ys : List Value} {f : Nat × Nat} (h : w.heap[b]? = some (.cells ys.toArray t f)) : ∀ j u, ys[j]? = some u → w.cell? ((⟨b, 0, none⟩ : Addr).add j) = some u := by
  intro j u hu
  rw [Addr.add_lit, Nat.zero_add]
  simp [World.cell?, h, hu]

set_option maxHeartbeats 4000000 in
set_option maxRecDepth 100000 in
/-- There is room, and it stands ahead of others: in place. -/
theorem insQ_shift {w : World} {base g cap vb : Nat} {cur ys : List Value} (h : Blk w base 60 3 g cap cur) (n i : Nat) (hi : i < n) (hn : n + 1 ≤ cap) (h1 : ∀ u ∈ cur.take (n * 3), u.oneCell' = true)
    (hv : w.heap[vb]? = some (.cells ys.toArray 60 (0, 0))) (hy : ys.length = 3) (hy1 : ∀ u ∈ ys, u.oneCell' = true) (hne : vb ≠ g) :
    Calls Try.prog 45 #[.slice (some ⟨g, 0, none⟩) n cap, .int .i64 i, .slice (some ⟨vb, 0, none⟩) 1 1] w fun e w' =>
      e = .returned (.slice (some ⟨g, 0, none⟩) (n + 1) cap) ∧ w' = (w.drew.setCells g ((i + 1) * 3) ((cur.take (n * 3)).drop (i * 3))).setCells g (i * 3) ys := by
  obtain ⟨i0, hi0, hz0, hzs, hzb⟩ := info_parts mInfoQ
  have hmax : cap ≤ 9223372036854775807 := by have := h.max; unfold maxLen at this; omega
  have hlc : cur.length = cap * 3 := h.size
  have hcells := cells_blk hv
  have hov : ∀ lb cb, (callFunc 56 #[.slice (some ⟨vb, 0, none⟩) 1 1, .slice (some ⟨g, (i + 1) * 3, none⟩) lb cb]).run Try.prog w = .ok (.value (.bool false)) w := fun lb cb => by
    rw [run_callFunc_extern Try.func56 (by kernel_rfl) (by kernel_rfl) (by kernel_rfl) (e := Extern.SlicesOverlaps.overlaps #[56, 56] #[4]) (by kernel_rfl),
      Lib.run_overlaps_apart w 56 4 60 Try.underlying56 3 Try.sizeOf60 ⟨vb, 0, none⟩ ⟨g, (i + 1) * 3, none⟩ 1 1 lb cb hne 60 60 3 (cap * 3) (by simp [World.shape?, hv, hy]) (by simp [World.shape?, h.heap, hlc]) (by omega) (by simp [World.frozen?, hv]) (by simp [World.frozen?, hv])]
    rfl
  obtain ⟨news, hnews⟩ : ∃ news, news = (cur.take (n * 3)).drop (i * 3) := ⟨_, rfl⟩
  have hlen : news.length = (n - i) * 3 := by rw [hnews, List.length_drop, List.length_take]; omega
  have hget : ∀ t u, news[t]? = some u → cur[i * 3 + t]? = some u := by
    intro t u hu
    rw [hnews, List.getElem?_drop, List.getElem?_take] at hu
    split at hu
    · exact hu
    · cases hu
  have hB1 := h.drew.set ((i + 1) * 3) news (by rw [hlen]; omega)
  have hcp1 : ∀ ty dc sc, (Builtin.copy_ #[56, 56] ty #[.slice (some ⟨g, (i + 1) * 3, none⟩) (n - i) dc, .slice (some ⟨g, i * 3, none⟩) (n + 1 - i) sc]).run Try.prog w.drew = .ok (goInt ((n - i : Nat) : Int)) (w.drew.setCells g ((i + 1) * 3) news) := fun ty dc sc =>
    run_copy_k w.drew _ _ ty 60 i0 g ((i + 1) * 3) (n - i) dc ⟨g, i * 3, none⟩ (n + 1 - i) sc (n - i) news Try.underlying56 hi0 (by simp only [Nat.min_def]; split <;> omega) (by rw [hzs]; exact hlen)
      (fun j u hj => by rw [Addr.add_lit]; exact (h.cell _).trans (hget j u hj))
      (fun j hj => h.there (by omega)) (fun j hj => h.soft _) (fun u hu => by rw [hnews] at hu; exact h1 u (List.mem_of_mem_drop hu))
  obtain ⟨W1, hW1⟩ : ∃ W1, W1 = w.drew.setCells g ((i + 1) * 3) news := ⟨_, rfl⟩
  rw [← hW1] at hB1 hcp1
  have hv1 : W1.heap[vb]? = some (.cells ys.toArray 60 (0, 0)) := by
    rw [hW1]
    exact ((fr_setCells g (S := fun k => k = g) rfl news ((i + 1) * 3) w.drew).block vb (Array.getElem?_eq_some_iff.1 hv).1 hne).trans hv
  have hcp2 : ∀ ty dc, (Builtin.copy_ #[56, 56] ty #[.slice (some ⟨g, i * 3, none⟩) (n + 1 - i) dc, .slice (some ⟨vb, 0, none⟩) 1 1]).run Try.prog W1 = .ok (goInt 1) (W1.setCells g (i * 3) ys) := fun ty dc =>
    run_copy_k W1 _ _ ty 60 i0 g (i * 3) (n + 1 - i) dc ⟨vb, 0, none⟩ 1 1 1 ys Try.underlying56 hi0 (by simp only [Nat.min_def]; split <;> omega) (by rw [hzs, hy])
      (cells_blk hv1) (fun j hj => hB1.there (by omega)) (fun j hj => hB1.soft _) hy1
  have HE : Hid (W1 = w.drew.setCells g ((i + 1) * 3) news) := hW1
  have HC1 : Hid _ := hcp1
  have HOv : Hid _ := hov
  rw [← hnews]
  have hz2 : ¬ ((i : Int) = (n : Int)) := by omega
  have hin : i ≤ n := by omega
  have hic : i ≤ cap := by omega
  have htn : ((i : Int) + 1).toNat = i + 1 := by omega
  have hw1 : IntKind.i64.wrap ((i : Int) + 1) = (i : Int) + 1 := by rw [IntKind.wrap_i64]; omega
  have hb1 : (0 : Int) ≤ (i : Int) + 1 := by omega
  have hb6 : (i : Int) + 1 ≤ (n : Int) + 1 := by omega
  have htn2 : ((n : Int) + 1).toNat = n + 1 := by omega
  have hb2 : ¬ (cap = i + 1) := by omega
  have hb4 : ¬ (cap = i) := by omega
  have hb3 : (i : Int) ≤ (n : Int) + 1 := by omega
  have hb5 : ¬ ((cap : Int) < (n : Int) + 1) := by omega
  clear hW1 hB1 hget hnews hlen hlc h h1 hcp1 hcells hv1 hv
  go_enter Try.func45, Try.ntmps45
  go_wp2_with (simp only [hov])
  go_region_law (refine step_copy_run rfl _ _ 56 56 rfl (.slice (some ⟨g, (i + 1) * 3, none⟩) (n - i) (cap - (i + 1))) (.slice (some ⟨g, i * 3, none⟩) (n + 1 - i) (cap - i)) (by simp [Act.eval, Act.put]) (by simp [Act.eval, Act.put]) (HC1.out 3 (cap - (i + 1)) (cap - i)) ?_)
  go_wp2
  go_ret
  exact ⟨rfl, by rw [HE.out]⟩
set_option maxHeartbeats 4000000 in
set_option maxRecDepth 100000 in
/-- There is no room: a new row. -/
theorem insQ_grow {w : World} {base g cap vb : Nat} {cur ys : List Value} (h : Blk w base 60 3 g cap cur) (n i : Nat) (hi : i < n) (hn : n ≤ cap) (hroom : cap < n + 1) (hbig : (n + 1) * 32 ≤ 140737488355328) (h1 : ∀ u ∈ cur.take (n * 3), u.oneCell' = true)
    (hv : w.heap[vb]? = some (.cells ys.toArray 60 (0, 0))) (hy : ys.length = 3) (hy1 : ∀ u ∈ ys, u.oneCell' = true) :
    Calls Try.prog 45 #[.slice (some ⟨g, 0, none⟩) n cap, .int .i64 i, .slice (some ⟨vb, 0, none⟩) 1 1] w fun e w' =>
      ∃ G zs, e = .returned (.slice (some ⟨w.heap.size, 0, none⟩) (n + 1) G) ∧ n + 1 ≤ G ∧ G ≤ maxLen ∧ ((cur.take (n * 3)).take (i * 3) ++ zs).length = G * 3 ∧
      w' = (((w.alloc (.cells ((cur.take (n * 3)).take (i * 3) ++ zs).toArray 60)).drew.setCells w.heap.size (i * 3) ys).drew).setCells w.heap.size ((i + 1) * 3) ((cur.take (n * 3)).drop (i * 3)) := by
  obtain ⟨i0, hi0, hz0, hzs, hzb⟩ := info_parts mInfoQ
  have hmax : cap ≤ 9223372036854775807 := by have := h.max; unfold maxLen at this; omega
  have hlc : cur.length = cap * 3 := h.size
  obtain ⟨xs, hxs⟩ : ∃ xs, xs = cur.take (n * 3) := ⟨_, rfl⟩
  rw [← hxs] at h1 ⊢
  have hxl : xs.length = n * 3 := by rw [hxs, List.length_take]; omega
  have hget : ∀ (t : Nat) (u : Value), xs[t]? = some u → cur[t]? = some u := by
    intro t u hu
    rw [hxs, List.getElem?_take] at hu
    split at hu
    · exact hu
    · cases hu
  have hkk : (n : Int) + 1 - (i : Int) = ((n + 1 - i : Nat) : Int) := by omega
  have hik : i + (n + 1 - i) = n + 1 := by omega
  have hold : (Builtin.firstCells i0.size i (.slice (some ⟨g, 0, none⟩) i cap)).run Try.prog w.drew = .ok (xs.take (i * 3)).toArray w.drew := by
    rw [hzs]
    exact run_firstCells_some w.drew 3 i ⟨g, 0, none⟩ i cap (xs.take (i * 3)) (by rw [List.length_take]; omega) (fun j u hj => by
      rw [Addr.add_lit, Nat.zero_add]
      rw [List.getElem?_take] at hj
      split at hj
      · exact (h.cell _).trans (hget j u hj)
      · cases hj)
  have hrz : ∀ ty, (Builtin.append_ #[56, 3] ty #[.slice (some ⟨g, 0, none⟩) i cap, .int .i64 ((n : Int) + 1 - (i : Int))]).run Try.prog w =
      .ok (.slice (some ⟨w.heap.size, 0, none⟩) (n + 1) (grownCap w (n + 1) cap 60)) (w.drew.alloc (.cells ((xs.take (i * 3)).toArray ++ Builtin.zeroCells (.agg #[.int .i64 0, .int .i64 0, .string (str [])] : Value).cells (n + 1 - i) ++ Builtin.zeroCells (.agg #[.int .i64 0, .int .i64 0, .string (str [])] : Value).cells (grownCap w (n + 1) cap 60 - (n + 1))) 60)) := fun ty => by
    have h := Lib.run_append_grow_zeros w 56 3 ty 60 i0 _ .i64 .i64 Try.underlying56 Try.underlying3 hi0 hz0 (some ⟨g, 0, none⟩) i cap (xs.take (i * 3)) hold (n + 1 - i) (by omega) (by omega) (by omega) (by omega) (by rw [hzb]; omega) (by rw [hzb, hik]; exact growslice_fits hroom hbig)
    rw [hik] at h
    rw [hkk]
    exact h
  obtain ⟨G, hG⟩ : ∃ G, G = grownCap w (n + 1) cap 60 := ⟨_, rfl⟩
  rw [← hG] at hrz
  obtain ⟨zs, hzs'⟩ : ∃ zs : List Value, zs = (Builtin.zeroCells (.agg #[.int .i64 0, .int .i64 0, .string (str [])] : Value).cells (n + 1 - i)).toList ++ (Builtin.zeroCells (.agg #[.int .i64 0, .int .i64 0, .string (str [])] : Value).cells (G - (n + 1))).toList := ⟨_, rfl⟩
  have hrow : (xs.take (i * 3)).toArray ++ Builtin.zeroCells (.agg #[.int .i64 0, .int .i64 0, .string (str [])] : Value).cells (n + 1 - i) ++ Builtin.zeroCells (.agg #[.int .i64 0, .int .i64 0, .string (str [])] : Value).cells (G - (n + 1)) = (xs.take (i * 3) ++ zs).toArray := by
    rw [hzs']
    apply Array.ext'
    simp
  rw [hrow] at hrz
  have hGn : n + 1 ≤ G := by rw [hG]; exact grownCap_ge w _ _ _
  have hGm : G ≤ maxLen := by rw [hG]; exact grownCap_le_maxLen w (n + 1) cap 60 (by unfold maxLen; omega)
  have hG63 : G ≤ 9223372036854775807 := by unfold maxLen at hGm; omega
  have hRl : (xs.take (i * 3) ++ zs).length = G * 3 := by
    have hk : (.agg #[.int .i64 0, .int .i64 0, .string (str [])] : Value).cells.size = 3 := by decide
    rw [List.length_append, hzs', List.length_append, zc_len, zc_len, List.length_take, hk]
    omega
  obtain ⟨ROW, hROW⟩ : ∃ ROW, ROW = xs.take (i * 3) ++ zs := ⟨_, rfl⟩
  rw [← hROW] at hRl hrz
  have hB0 : Blk (w.alloc (.cells ROW.toArray 60)).drew w.heap.size 60 3 w.heap.size G ROW := ⟨Nat.le_refl _, heap_alloc_new w _, hGm, hRl⟩
  have hB1 := (hB0.set (i * 3) ys (by omega)).drew
  have hvl : vb < w.heap.size := (Array.getElem?_eq_some_iff.1 hv).1
  have hv0 : ((w.alloc (.cells ROW.toArray 60)).drew).heap[vb]? = some (.cells ys.toArray 60 (0, 0)) := (Below.heap_alloc w _ _ hvl).trans hv
  have hgl : g < w.heap.size := h.lt
  have hg1 : (((w.alloc (.cells ROW.toArray 60)).drew.setCells w.heap.size (i * 3) ys).drew).heap[g]? = some (.cells cur.toArray 60 (0, 0)) :=
    ((fr_setCells w.heap.size (S := fun k => k = w.heap.size) rfl ys (i * 3) (w.alloc (.cells ROW.toArray 60)).drew).block g (by show g < (w.alloc _).heap.size; rw [World.size_alloc]; omega) (by omega)).trans ((Below.heap_alloc w _ _ hgl).trans h.heap)
  have hcpA : ∀ ty dc, (Builtin.copy_ #[56, 56] ty #[.slice (some ⟨w.heap.size, i * 3, none⟩) (n + 1 - i) dc, .slice (some ⟨vb, 0, none⟩) 1 1]).run Try.prog ((w.alloc (.cells ROW.toArray 60)).drew) = .ok (goInt 1) (((w.alloc (.cells ROW.toArray 60)).drew).setCells w.heap.size (i * 3) ys) := fun ty dc =>
    run_copy_k ((w.alloc (.cells ROW.toArray 60)).drew) _ _ ty 60 i0 w.heap.size (i * 3) (n + 1 - i) dc ⟨vb, 0, none⟩ 1 1 1 ys Try.underlying56 hi0 (by simp only [Nat.min_def]; split <;> omega) (by rw [hzs, hy])
      (cells_blk hv0) (fun j hj => hB0.there (by omega)) (fun j hj => hB0.soft _) hy1
  have hcpB : ∀ ty dc sc, (Builtin.copy_ #[56, 56] ty #[.slice (some ⟨w.heap.size, (i + 1) * 3, none⟩) (n - i) dc, .slice (some ⟨g, i * 3, none⟩) (n - i) sc]).run Try.prog ((((w.alloc (.cells ROW.toArray 60)).drew).setCells w.heap.size (i * 3) ys).drew) = .ok (goInt ((n - i : Nat) : Int)) (((((w.alloc (.cells ROW.toArray 60)).drew).setCells w.heap.size (i * 3) ys).drew).setCells w.heap.size ((i + 1) * 3) (xs.drop (i * 3))) := fun ty dc sc =>
    run_copy_k ((((w.alloc (.cells ROW.toArray 60)).drew).setCells w.heap.size (i * 3) ys).drew) _ _ ty 60 i0 w.heap.size ((i + 1) * 3) (n - i) dc ⟨g, i * 3, none⟩ (n - i) sc (n - i) (xs.drop (i * 3)) Try.underlying56 hi0 (by simp only [Nat.min_def]; split <;> omega) (by rw [hzs, List.length_drop]; omega)
      (fun j u hj => by rw [Addr.add_lit]; simp only [World.cell?, hg1]; rw [List.getElem?_drop] at hj; simpa using hget _ u hj)
      (fun j hj => hB1.there (by rw [List.length_drop] at hj; omega)) (fun j hj => hB1.soft _) (fun u hu => h1 u (List.mem_of_mem_drop hu))
  have HA : Hid _ := hrz
  have HC2 : Hid _ := hcpB
  have HR : Hid (ROW = xs.take (i * 3) ++ zs) := hROW
  have HGm : Hid (G ≤ maxLen) := hGm
  have HRl : Hid (ROW.length = G * 3) := hRl
  have hz2 : ¬ ((i : Int) = (n : Int)) := by omega
  have hin : i ≤ n := by omega
  have hic : i ≤ cap := by omega
  have htn : ((i : Int) + 1).toNat = i + 1 := by omega
  have hw1 : IntKind.i64.wrap ((i : Int) + 1) = (i : Int) + 1 := by rw [IntKind.wrap_i64]; omega
  have hb1 : (0 : Int) ≤ (i : Int) + 1 := by omega
  have hb6 : (i : Int) + 1 ≤ (n : Int) + 1 := by omega
  have hGi : ¬ (G = i) := by omega
  have hGim : ¬ (G = i + 1) := by omega
  have hci : ¬ (cap = i) := by omega
  have hb3 : (i : Int) ≤ (n : Int) + 1 := by omega
  have hb5 : (cap : Int) < (n : Int) + 1 := by omega
  clear hrz hcpB hROW hRl hGm hB0 hB1 hv0 hg1 hG hzs' hrow hold hkk hik hget hxl hxs hlc h1 hv h
  go_enter Try.func45, Try.ntmps45
  go_wp2_with (at_builtin; refine Lib.wpList_append_run _ rfl _ _ _ _ rfl _ _ rfl rfl _ _ (HA.out _) ?_)
  go_region_law (refine step_copy_run rfl _ _ 56 56 rfl (.slice (some ⟨w.heap.size, (i + 1) * 3, none⟩) (n - i) (G - (i + 1))) (.slice (some ⟨g, i * 3, none⟩) (n - i) (cap - i)) (by simp [Act.eval, Act.put]) (by simp [Act.eval, Act.put]) (HC2.out 3 (G - (i + 1)) (cap - i)) ?_)
  go_wp2
  go_ret
  exact ⟨G, zs, rfl, hGn, HGm.out, by rw [← HR.out]; exact HRl.out, by rw [← HR.out]⟩
set_option maxHeartbeats 4000000 in
set_option maxRecDepth 100000 in
/-- At the end. -/
theorem insQ_end {w : World} {base vb : Nat} {v : Value} {n : Nat} {xs ys : List Value} (h : w.ownsRow base 60 3 v n xs) (hbase : base ≤ w.heap.size) (hbig : (n + 1) * 32 ≤ 140737488355328)
    (hv : w.heap[vb]? = some (.cells ys.toArray 60 (0, 0))) (hy : ys.length = 3) (hy1 : ∀ u ∈ ys, u.oneCell' = true) :
    Calls Try.prog 45 #[v, .int .i64 n, .slice (some ⟨vb, 0, none⟩) 1 1] w fun e w' =>
      ∃ v', e = .returned v' ∧ (v'.ownBlock = v.ownBlock ∨ v'.ownBlock = some w.heap.size) ∧ w'.ownsRow base 60 3 v' (n + 1) (xs ++ ys) ∧ Fr w w' (fun k => v.ownBlock = some k) := by
  obtain ⟨i0, hi0, hz0, hzs, hzb⟩ := info_parts mInfoQ
  have HO : Hid _ := h
  have HV : Hid _ := cells_blk hv
  have HY : Hid (ys.length = 1 * 3) := by show _ = _; rw [hy]
  have HY1 : Hid _ := hy1
  have HB : Hid (base ≤ w.heap.size) := hbase
  clear hv hy hy1
  rcases h.2 with ⟨rfl, rfl⟩ | ⟨g, cap, cur, rfl, _, _, hnc, hcm, _⟩
  · clear h
    go_enter Try.func45, Try.ntmps45
    go_wp2_with (at_builtin; refine wpList_append_own_at _ rfl _ _ 56 rfl base 60 i0 (.agg #[.int .i64 0, .int .i64 0, .string (str [])]) 3 32 Try.underlying56 hi0 hz0 hzs hzb rfl (by decide) _ _ _ rfl HO.out ⟨vb, 0, none⟩ 1 1 ys rfl HY.out HV.out HY1.out (by decide) (by omega) HB.out ?_)
    intro v' w1 hown hgrow _ hat
    obtain ⟨ao', m', c', rfl⟩ := own_any hown
    have HW : Hid _ := hown
    clear hown
    go_wp2
    go_ret
    exact ⟨_, rfl, hat, HW.out, Fr.grown hgrow (fun k hk => hk)⟩
  · clear h
    have hcm' : cap ≤ 9223372036854775807 := by unfold maxLen at hcm; omega
    clear hcm
    go_enter Try.func45, Try.ntmps45
    go_wp2_with (at_builtin; refine wpList_append_own_at _ rfl _ _ 56 rfl base 60 i0 (.agg #[.int .i64 0, .int .i64 0, .string (str [])]) 3 32 Try.underlying56 hi0 hz0 hzs hzb rfl (by decide) _ _ _ rfl HO.out ⟨vb, 0, none⟩ 1 1 ys rfl HY.out HV.out HY1.out (by unfold maxLen; omega) (by omega) HB.out ?_)
    all_goals
      intro v' w1 hown hgrow _ hat
      obtain ⟨ao', m', c', rfl⟩ := own_any hown
      have HW : Hid _ := hown
      clear hown
      go_wp2
      go_ret
      exact ⟨_, rfl, hat, HW.out, Fr.grown hgrow (fun k hk => hk)⟩
/-- slices.Insert of one element into a row of one's own. -/
theorem insQ_any {w : World} {base vb : Nat} {v : Value} {n : Nat} {xs ys : List Value} (h : w.ownsRow base 60 3 v n xs) (h1 : ∀ u ∈ xs, u.oneCell' = true) (i : Nat) (hi : i ≤ n) (hbase : base ≤ w.heap.size) (hbig : (n + 1) * 32 ≤ 140737488355328)
    (hv : w.heap[vb]? = some (.cells ys.toArray 60 (0, 0))) (hy : ys.length = 3) (hy1 : ∀ u ∈ ys, u.oneCell' = true) (hne : v.ownBlock ≠ some vb) :
    Calls Try.prog 45 #[v, .int .i64 i, .slice (some ⟨vb, 0, none⟩) 1 1] w fun e w' =>
      ∃ v', e = .returned v' ∧ (v'.ownBlock = v.ownBlock ∨ v'.ownBlock = some w.heap.size) ∧ w'.ownsRow base 60 3 v' (n + 1) (xs.take (i * 3) ++ ys ++ xs.drop (i * 3)) ∧ Fr w w' (fun k => v.ownBlock = some k) := by
  have hxl := h.1
  by_cases hin : i = n
  · subst hin
    have e : xs.take (i * 3) ++ ys ++ xs.drop (i * 3) = xs ++ ys := by rw [List.take_of_length_le (by omega), List.drop_of_length_le (by omega), List.append_nil]
    rw [e]
    exact insQ_end h hbase hbig hv hy hy1
  · obtain ⟨g, cap, cur, rfl, hn, hB, rfl⟩ := own_blk h (by omega)
    have hcl := hB.size
    have hnk : n * 3 ≤ cap * 3 := Nat.mul_le_mul_right _ hn
    have hlen : ((cur.take (n * 3)).drop (i * 3)).length = (n - i) * 3 := by rw [List.length_drop, hxl]; omega
    by_cases hroom : n + 1 ≤ cap
    · refine (insQ_shift hB n i (by omega) hroom h1 hv hy hy1 (fun e => hne (by rw [e]; rfl))).mono ?_
      rintro e w' ⟨rfl, rfl⟩
      have hB2 := (hB.drew.set ((i + 1) * 3) _ (by rw [hlen]; omega)).set (i * 3) ys (by omega)
      refine ⟨_, rfl, .inl rfl, ?_, ?_⟩
      · have := hB2.own hroom
        rw [ins_list (k := 3) hi (by omega) hy] at this
        exact this
      · exact ((Fr.drew w _).trans (fr_setCells g (S := fun k => Value.ownBlock (.slice (some ⟨g, 0, none⟩) n cap) = some k) rfl _ _ _) (fun _ _ h => h)).trans (fr_setCells g (S := fun k => Value.ownBlock (.slice (some ⟨g, 0, none⟩) n cap) = some k) rfl _ _ _) (fun _ _ h => h)
    · refine (insQ_grow hB n i (by omega) hn (by omega) hbig h1 hv hy hy1).mono ?_
      rintro e w' ⟨G, zs, rfl, hG, hGm, hl, rfl⟩
      have hB0 : Blk (w.alloc (.cells ((cur.take (n * 3)).take (i * 3) ++ zs).toArray 60)).drew base 60 3 w.heap.size G ((cur.take (n * 3)).take (i * 3) ++ zs) := ⟨hbase, heap_alloc_new w _, hGm, hl⟩
      have hB2 := (hB0.set (i * 3) ys (by omega)).drew.set ((i + 1) * 3) ((cur.take (n * 3)).drop (i * 3)) (by rw [hlen]; omega)
      refine ⟨_, rfl, .inr rfl, ?_, ?_⟩
      · have := hB2.own hG
        rw [grow_list (k := 3) hi hxl (by omega) hy] at this
        exact this
      · have f0 : Fr w (w.alloc (.cells ((cur.take (n * 3)).take (i * 3) ++ zs).toArray 60)).drew (fun k => Value.ownBlock (.slice (some ⟨g, 0, none⟩) n cap) = some k) := (Fr.alloc w _ _).trans (Fr.drew _ _) (fun _ _ h => h)
        have f1 := f0.trans (fr_setCells w.heap.size (S := fun k => k = w.heap.size) rfl ys (i * 3) _) (fun k hk e => by omega)
        exact (f1.trans (Fr.drew _ (fun _ => False)) (fun _ _ h => h.elim)).trans (fr_setCells w.heap.size (S := fun k => k = w.heap.size) rfl _ ((i + 1) * 3) _) (fun k hk e => by omega)
/-- One request put at its place into a row of one's own. -/
theorem insert_any {w : World} {B vb : Nat} {v : Value} {L : List Req} {x : Req} (h : RqO 60 w B v L) (i : Nat) (hi : i ≤ L.length) (hB : B ≤ w.heap.size) (hl : L.length ≤ 1000000)
    (hv : w.heap[vb]? = some (.cells #[.int .i64 x.k, .int .i64 x.n, .string x.s] 60 (0, 0))) (hne : v.ownBlock ≠ some vb) :
    Calls Try.prog 45 #[v, .int .i64 i, .slice (some ⟨vb, 0, none⟩) 1 1] w fun e w' =>
      ∃ v', e = .returned v' ∧ RqO 60 w' B v' (L.take i ++ x :: L.drop i) ∧ Fr w w' (fun k => v.ownBlock = some k) ∧ Row w v v' := by
  refine (insQ_any (ys := rq x) h (rq_one L) i hi hB (by omega) hv rfl (by intro u hu; simp only [rq, List.mem_cons, List.not_mem_nil, or_false] at hu; rcases hu with rfl | rfl | rfl <;> rfl) hne).mono ?_
  rintro e w' ⟨v', rfl, hat, hown, hf⟩
  refine ⟨v', rfl, ?_, hf, ?_⟩
  · unfold RqO
    have e1 : (L.take i ++ x :: L.drop i).length = L.length + 1 := by
      rw [List.length_append, List.length_take, List.length_cons, List.length_drop]
      omega
    rw [e1, List.flatMap_append, List.flatMap_cons, ← rq_take, ← rq_drop, ← List.append_assoc]
    exact hown
  · rcases hat with hat | hat
    · exact .inl hat
    · exact .inr ⟨_, hat, Nat.le_refl _⟩
end Go.Proofs.Ytdnakakichblgaa
