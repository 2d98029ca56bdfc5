import Derived.Test.YthkfbaoeimjgaaaGreatJbTakeM
import Derived.Test.YthkfbaoeimjgaaaGreatSsFindM
import Derived.Test.YthkfbaoeimjgaaaGreatWriterWM
import Derived.Test.YthkfbaoeimjgaaaGreatChecked
import Derived.Deep.RegionLaw
import Derived.WalkKit
import Derived.Lib.Overlaps
import Derived.Laws.Externs
import Derived.Maps.AppendAt
import Derived.Laws.ResultCell
import Derived.Laws.Tables
import Derived.Deep.QuietTactic
import Derived.BigQuiet
import Derived.BigRegion
import Derived.Deep.Cut
import Derived.Deep.DeepCutAuto
import Derived.Deep.CutBlock
import Derived.Test.YthkfbaoeimjgaaaGreatOrdLM
section
/- slices.Insert of one request (the same walk as that of vertices in MuIns). -/
namespace Go.Proofs.YthkfbaoeimjgaaaGreat
open Go.RowKit
theorem mInfoQ : (Tryz.prog.info? 230).map (fun i => (i.zero, i.size, i.bytes)) = some (some (.agg #[.int .i64 0, .int .i64 0, .string (str [])]), 3, 32) := by kernel_rfl
/-- What stands behind an insertion in place. -/
theorem ins_list' {cur ys : List Value} {N p k : Nat} (hp : p ≤ N) (hc : N + k ≤ cur.length) (hy : ys.length = k) :
    (over (over cur (p + k) ((cur.take N).drop p)) p ys).take (N + k) = (cur.take N).take p ++ ys ++ (cur.take N).drop p := by
  obtain ⟨D, hD⟩ : ∃ D, D = (cur.take N).drop p := ⟨_, rfl⟩
  have hl : D.length = N - p := by rw [hD, List.length_drop, List.length_take]; omega
  rw [← hD]
  have hd : (over cur (p + k) D).drop (p + k) = D ++ cur.drop (p + k + D.length) := by
    unfold over
    rw [List.append_assoc, List.drop_left' (by rw [List.length_take]; omega)]
  have ht : (over cur (p + k) D).take p = cur.take p := over_take_lo _ _ _ (by omega) (by omega)
  show ((over cur (p + k) D).take p ++ ys ++ (over cur (p + k) D).drop (p + ys.length)).take (N + k) = _
  rw [ht, hy, hd, List.take_take, Nat.min_eq_left hp, ← List.append_assoc, List.take_left' (by rw [List.length_append, List.length_append, List.length_take]; omega)]
theorem ins_list {cur ys : List Value} {n i k : Nat} (hi : i ≤ n) (hc : (n + 1) * k ≤ cur.length) (hy : ys.length = k) :
    (over (over cur ((i + 1) * k) ((cur.take (n * k)).drop (i * k))) (i * k) ys).take ((n + 1) * k) = (cur.take (n * k)).take (i * k) ++ ys ++ (cur.take (n * k)).drop (i * k) := by
  have e1 : i * k ≤ n * k := Nat.mul_le_mul_right k hi
  rw [Nat.succ_mul] at hc
  rw [Nat.succ_mul, Nat.succ_mul]
  exact ins_list' e1 hc hy
theorem grow_list' {xs zs ys : List Value} {N p k : Nat} (hp : p ≤ N) (hx : xs.length = N) (hz : N + k ≤ (xs.take p ++ zs).length) (hy : ys.length = k) :
    (over (over (xs.take p ++ zs) p ys) (p + k) (xs.drop p)).take (N + k) = xs.take p ++ ys ++ xs.drop p := by
  have hl := over_len (xs.take p ++ zs) p ys (by omega)
  have h5 : N + k = (p + k) + (xs.drop p).length := by rw [List.length_drop]; omega
  have e : (over (xs.take p ++ zs) p ys).take (p + k) = xs.take p ++ ys := by
    rw [← hy, over_take_at _ _ _ (by omega), List.take_left' (by rw [List.length_take]; omega)]
  rw [h5, over_take_at _ _ _ (by omega), e]
theorem grow_list {xs zs ys : List Value} {n i k : Nat} (hi : i ≤ n) (hx : xs.length = n * k) (hz : (n + 1) * k ≤ (xs.take (i * k) ++ zs).length) (hy : ys.length = k) :
    (over (over (xs.take (i * k) ++ zs) (i * k) ys) ((i + 1) * k) (xs.drop (i * k))).take ((n + 1) * k) = xs.take (i * k) ++ ys ++ xs.drop (i * k) := by
  have e1 : i * k ≤ n * k := Nat.mul_le_mul_right k hi
  rw [Nat.succ_mul] at hz
  rw [Nat.succ_mul, Nat.succ_mul]
  exact grow_list' e1 hx hz hy
theorem cells_blk {w : World} {b : Nat} {t : TypeId} {ys : List Value} {f : Nat × Nat} (h : w.heap[b]? = some (.cells ys.toArray t f)) : ∀ j u, ys[j]? = some u → w.cell? ((⟨b, 0, none⟩ : Addr).add j) = some u := by
  intro j u hu
  rw [Addr.add_lit, Nat.zero_add]
  simp [World.cell?, h, hu]

set_option maxHeartbeats 4000000 in
set_option maxRecDepth 100000 in
/-- There is room, and it stands ahead of others: in place. -/
theorem insQ_shift {w : World} {base g cap vb : Nat} {cur ys : List Value} (h : Blk w base 230 3 g cap cur) (n i : Nat) (hi : i < n) (hn : n + 1 ≤ cap) (h1 : ∀ u ∈ cur.take (n * 3), u.oneCell' = true)
    (hv : w.heap[vb]? = some (.cells ys.toArray 230 (0, 0))) (hy : ys.length = 3) (hy1 : ∀ u ∈ ys, u.oneCell' = true) (hne : vb ≠ g) :
    Calls Tryz.prog 212 #[.slice (some ⟨g, 0, none⟩) n cap, .int .i64 i, .slice (some ⟨vb, 0, none⟩) 1 1] w fun e w' =>
      e = .returned (.slice (some ⟨g, 0, none⟩) (n + 1) cap) ∧ w' = (w.drew.setCells g ((i + 1) * 3) ((cur.take (n * 3)).drop (i * 3))).setCells g (i * 3) ys := by
  obtain ⟨i0, hi0, hz0, hzs, hzb⟩ := info_parts mInfoQ
  have hmax : cap ≤ 9223372036854775807 := by have := h.max; unfold maxLen at this; omega
  have hlc : cur.length = cap * 3 := h.size
  have hcells := cells_blk hv
  have hov : ∀ lb cb, (callFunc 264 #[.slice (some ⟨vb, 0, none⟩) 1 1, .slice (some ⟨g, (i + 1) * 3, none⟩) lb cb]).run Tryz.prog w = .ok (.value (.bool false)) w := fun lb cb => by
    rw [run_callFunc_extern Tryz.func264 (by kernel_rfl) (by kernel_rfl) (by kernel_rfl) (e := Extern.SlicesOverlaps.overlaps #[232, 232] #[4]) (by kernel_rfl),
      Lib.run_overlaps_apart w 232 4 230 Tryz.underlying232 3 Tryz.sizeOf230 ⟨vb, 0, none⟩ ⟨g, (i + 1) * 3, none⟩ 1 1 lb cb hne 230 230 3 (cap * 3) (by simp [World.shape?, hv, hy]) (by simp [World.shape?, h.heap, hlc]) (by omega) (by simp [World.frozen?, hv]) (by simp [World.frozen?, hv])]
    rfl
  obtain ⟨news, hnews⟩ : ∃ news, news = (cur.take (n * 3)).drop (i * 3) := ⟨_, rfl⟩
  have hlen : news.length = (n - i) * 3 := by rw [hnews, List.length_drop, List.length_take]; omega
  have hget : ∀ t u, news[t]? = some u → cur[i * 3 + t]? = some u := by
    intro t u hu
    rw [hnews, List.getElem?_drop, List.getElem?_take] at hu
    split at hu
    · exact hu
    · cases hu
  have hB1 := h.drew.set ((i + 1) * 3) news (by rw [hlen]; omega)
  have hcp1 : ∀ ty dc sc, (Builtin.copy_ #[232, 232] ty #[.slice (some ⟨g, (i + 1) * 3, none⟩) (n - i) dc, .slice (some ⟨g, i * 3, none⟩) (n + 1 - i) sc]).run Tryz.prog w.drew = .ok (goInt ((n - i : Nat) : Int)) (w.drew.setCells g ((i + 1) * 3) news) := fun ty dc sc =>
    run_copy_k w.drew _ _ ty 230 i0 g ((i + 1) * 3) (n - i) dc ⟨g, i * 3, none⟩ (n + 1 - i) sc (n - i) news Tryz.underlying232 hi0 (by simp only [Nat.min_def]; split <;> omega) (by rw [hzs]; exact hlen)
      (fun j u hj => by rw [Addr.add_lit]; exact (h.cell _).trans (hget j u hj))
      (fun j hj => h.there (by omega)) (fun j hj => h.soft _) (fun u hu => by rw [hnews] at hu; exact h1 u (List.mem_of_mem_drop hu))
  obtain ⟨W1, hW1⟩ : ∃ W1, W1 = w.drew.setCells g ((i + 1) * 3) news := ⟨_, rfl⟩
  rw [← hW1] at hB1 hcp1
  have hv1 : W1.heap[vb]? = some (.cells ys.toArray 230 (0, 0)) := by
    rw [hW1]
    exact ((fr_setCells g (S := fun k => k = g) rfl news ((i + 1) * 3) w.drew).block vb (Array.getElem?_eq_some_iff.1 hv).1 hne).trans hv
  have hcp2 : ∀ ty dc, (Builtin.copy_ #[232, 232] ty #[.slice (some ⟨g, i * 3, none⟩) (n + 1 - i) dc, .slice (some ⟨vb, 0, none⟩) 1 1]).run Tryz.prog W1 = .ok (goInt 1) (W1.setCells g (i * 3) ys) := fun ty dc =>
    run_copy_k W1 _ _ ty 230 i0 g (i * 3) (n + 1 - i) dc ⟨vb, 0, none⟩ 1 1 1 ys Tryz.underlying232 hi0 (by simp only [Nat.min_def]; split <;> omega) (by rw [hzs, hy])
      (cells_blk hv1) (fun j hj => hB1.there (by omega)) (fun j hj => hB1.soft _) hy1
  have HE : Hid (W1 = w.drew.setCells g ((i + 1) * 3) news) := hW1
  have HC1 : Hid _ := hcp1
  have HOv : Hid _ := hov
  rw [← hnews]
  have hz2 : ¬ ((i : Int) = (n : Int)) := by omega
  have hin : i ≤ n := by omega
  have hic : i ≤ cap := by omega
  have htn : ((i : Int) + 1).toNat = i + 1 := by omega
  have hw1 : IntKind.i64.wrap ((i : Int) + 1) = (i : Int) + 1 := by rw [IntKind.wrap_i64]; omega
  have hb1 : (0 : Int) ≤ (i : Int) + 1 := by omega
  have hb6 : (i : Int) + 1 ≤ (n : Int) + 1 := by omega
  have htn2 : ((n : Int) + 1).toNat = n + 1 := by omega
  have hb2 : ¬ (cap = i + 1) := by omega
  have hb4 : ¬ (cap = i) := by omega
  have hb3 : (i : Int) ≤ (n : Int) + 1 := by omega
  have hb5 : ¬ ((cap : Int) < (n : Int) + 1) := by omega
  clear hW1 hB1 hget hnews hlen hlc h h1 hcp1 hcells hv1 hv
  go_enter Tryz.func212, Tryz.ntmps212
  go_wp2_with (simp only [hov])
  go_region_law (refine step_copy_run rfl _ _ 232 232 rfl (.slice (some ⟨g, (i + 1) * 3, none⟩) (n - i) (cap - (i + 1))) (.slice (some ⟨g, i * 3, none⟩) (n + 1 - i) (cap - i)) (by simp [Act.eval, Act.put]) (by simp [Act.eval, Act.put]) (HC1.out 3 (cap - (i + 1)) (cap - i)) ?_)
  go_wp2
  go_ret
  exact ⟨rfl, by rw [HE.out]⟩
set_option maxHeartbeats 4000000 in
set_option maxRecDepth 100000 in
/-- There is no room: a new row. -/
theorem insQ_grow {w : World} {base g cap vb : Nat} {cur ys : List Value} (h : Blk w base 230 3 g cap cur) (n i : Nat) (hi : i < n) (hn : n ≤ cap) (hroom : cap < n + 1) (hbig : (n + 1) * 32 ≤ 140737488355328) (h1 : ∀ u ∈ cur.take (n * 3), u.oneCell' = true)
    (hv : w.heap[vb]? = some (.cells ys.toArray 230 (0, 0))) (hy : ys.length = 3) (hy1 : ∀ u ∈ ys, u.oneCell' = true) :
    Calls Tryz.prog 212 #[.slice (some ⟨g, 0, none⟩) n cap, .int .i64 i, .slice (some ⟨vb, 0, none⟩) 1 1] w fun e w' =>
      ∃ G zs, e = .returned (.slice (some ⟨w.heap.size, 0, none⟩) (n + 1) G) ∧ n + 1 ≤ G ∧ G ≤ maxLen ∧ ((cur.take (n * 3)).take (i * 3) ++ zs).length = G * 3 ∧
      w' = (((w.alloc (.cells ((cur.take (n * 3)).take (i * 3) ++ zs).toArray 230)).drew.setCells w.heap.size (i * 3) ys).drew).setCells w.heap.size ((i + 1) * 3) ((cur.take (n * 3)).drop (i * 3)) := by
  obtain ⟨i0, hi0, hz0, hzs, hzb⟩ := info_parts mInfoQ
  have hmax : cap ≤ 9223372036854775807 := by have := h.max; unfold maxLen at this; omega
  have hlc : cur.length = cap * 3 := h.size
  obtain ⟨xs, hxs⟩ : ∃ xs, xs = cur.take (n * 3) := ⟨_, rfl⟩
  rw [← hxs] at h1 ⊢
  have hxl : xs.length = n * 3 := by rw [hxs, List.length_take]; omega
  have hget : ∀ (t : Nat) (u : Value), xs[t]? = some u → cur[t]? = some u := by
    intro t u hu
    rw [hxs, List.getElem?_take] at hu
    split at hu
    · exact hu
    · cases hu
  have hkk : (n : Int) + 1 - (i : Int) = ((n + 1 - i : Nat) : Int) := by omega
  have hik : i + (n + 1 - i) = n + 1 := by omega
  have hold : (Builtin.firstCells i0.size i (.slice (some ⟨g, 0, none⟩) i cap)).run Tryz.prog w.drew = .ok (xs.take (i * 3)).toArray w.drew := by
    rw [hzs]
    exact run_firstCells_some w.drew 3 i ⟨g, 0, none⟩ i cap (xs.take (i * 3)) (by rw [List.length_take]; omega) (fun j u hj => by
      rw [Addr.add_lit, Nat.zero_add]
      rw [List.getElem?_take] at hj
      split at hj
      · exact (h.cell _).trans (hget j u hj)
      · cases hj)
  have hrz : ∀ ty, (Builtin.append_ #[232, 3] ty #[.slice (some ⟨g, 0, none⟩) i cap, .int .i64 ((n : Int) + 1 - (i : Int))]).run Tryz.prog w =
      .ok (.slice (some ⟨w.heap.size, 0, none⟩) (n + 1) (grownCap w (n + 1) cap 230)) (w.drew.alloc (.cells ((xs.take (i * 3)).toArray ++ Builtin.zeroCells (.agg #[.int .i64 0, .int .i64 0, .string (str [])] : Value).cells (n + 1 - i) ++ Builtin.zeroCells (.agg #[.int .i64 0, .int .i64 0, .string (str [])] : Value).cells (grownCap w (n + 1) cap 230 - (n + 1))) 230)) := fun ty => by
    have h := Lib.run_append_grow_zeros w 232 3 ty 230 i0 _ .i64 .i64 Tryz.underlying232 Tryz.underlying3 hi0 hz0 (some ⟨g, 0, none⟩) i cap (xs.take (i * 3)) hold (n + 1 - i) (by omega) (by omega) (by omega) (by omega) (by rw [hzb]; omega) (by rw [hzb, hik]; exact growslice_fits hroom hbig)
    rw [hik] at h
    rw [hkk]
    exact h
  obtain ⟨G, hG⟩ : ∃ G, G = grownCap w (n + 1) cap 230 := ⟨_, rfl⟩
  rw [← hG] at hrz
  obtain ⟨zs, hzs'⟩ : ∃ zs : List Value, zs = (Builtin.zeroCells (.agg #[.int .i64 0, .int .i64 0, .string (str [])] : Value).cells (n + 1 - i)).toList ++ (Builtin.zeroCells (.agg #[.int .i64 0, .int .i64 0, .string (str [])] : Value).cells (G - (n + 1))).toList := ⟨_, rfl⟩
  have hrow : (xs.take (i * 3)).toArray ++ Builtin.zeroCells (.agg #[.int .i64 0, .int .i64 0, .string (str [])] : Value).cells (n + 1 - i) ++ Builtin.zeroCells (.agg #[.int .i64 0, .int .i64 0, .string (str [])] : Value).cells (G - (n + 1)) = (xs.take (i * 3) ++ zs).toArray := by
    rw [hzs']
    apply Array.ext'
    simp
  rw [hrow] at hrz
  have hGn : n + 1 ≤ G := by rw [hG]; exact grownCap_ge w _ _ _
  have hGm : G ≤ maxLen := by rw [hG]; exact grownCap_le_maxLen w (n + 1) cap 230 (by unfold maxLen; omega)
  have hG63 : G ≤ 9223372036854775807 := by unfold maxLen at hGm; omega
  have hRl : (xs.take (i * 3) ++ zs).length = G * 3 := by
    have hk : (.agg #[.int .i64 0, .int .i64 0, .string (str [])] : Value).cells.size = 3 := by decide
    rw [List.length_append, hzs', List.length_append, zc_len, zc_len, List.length_take, hk]
    omega
  obtain ⟨ROW, hROW⟩ : ∃ ROW, ROW = xs.take (i * 3) ++ zs := ⟨_, rfl⟩
  rw [← hROW] at hRl hrz
  have hB0 : Blk (w.alloc (.cells ROW.toArray 230)).drew w.heap.size 230 3 w.heap.size G ROW := ⟨Nat.le_refl _, heap_alloc_new w _, hGm, hRl⟩
  have hB1 := (hB0.set (i * 3) ys (by omega)).drew
  have hvl : vb < w.heap.size := (Array.getElem?_eq_some_iff.1 hv).1
  have hv0 : ((w.alloc (.cells ROW.toArray 230)).drew).heap[vb]? = some (.cells ys.toArray 230 (0, 0)) := (Below.heap_alloc w _ _ hvl).trans hv
  have hgl : g < w.heap.size := h.lt
  have hg1 : (((w.alloc (.cells ROW.toArray 230)).drew.setCells w.heap.size (i * 3) ys).drew).heap[g]? = some (.cells cur.toArray 230 (0, 0)) :=
    ((fr_setCells w.heap.size (S := fun k => k = w.heap.size) rfl ys (i * 3) (w.alloc (.cells ROW.toArray 230)).drew).block g (by show g < (w.alloc _).heap.size; rw [World.size_alloc]; omega) (by omega)).trans ((Below.heap_alloc w _ _ hgl).trans h.heap)
  have hcpA : ∀ ty dc, (Builtin.copy_ #[232, 232] ty #[.slice (some ⟨w.heap.size, i * 3, none⟩) (n + 1 - i) dc, .slice (some ⟨vb, 0, none⟩) 1 1]).run Tryz.prog ((w.alloc (.cells ROW.toArray 230)).drew) = .ok (goInt 1) (((w.alloc (.cells ROW.toArray 230)).drew).setCells w.heap.size (i * 3) ys) := fun ty dc =>
    run_copy_k ((w.alloc (.cells ROW.toArray 230)).drew) _ _ ty 230 i0 w.heap.size (i * 3) (n + 1 - i) dc ⟨vb, 0, none⟩ 1 1 1 ys Tryz.underlying232 hi0 (by simp only [Nat.min_def]; split <;> omega) (by rw [hzs, hy])
      (cells_blk hv0) (fun j hj => hB0.there (by omega)) (fun j hj => hB0.soft _) hy1
  have hcpB : ∀ ty dc sc, (Builtin.copy_ #[232, 232] ty #[.slice (some ⟨w.heap.size, (i + 1) * 3, none⟩) (n - i) dc, .slice (some ⟨g, i * 3, none⟩) (n - i) sc]).run Tryz.prog ((((w.alloc (.cells ROW.toArray 230)).drew).setCells w.heap.size (i * 3) ys).drew) = .ok (goInt ((n - i : Nat) : Int)) (((((w.alloc (.cells ROW.toArray 230)).drew).setCells w.heap.size (i * 3) ys).drew).setCells w.heap.size ((i + 1) * 3) (xs.drop (i * 3))) := fun ty dc sc =>
    run_copy_k ((((w.alloc (.cells ROW.toArray 230)).drew).setCells w.heap.size (i * 3) ys).drew) _ _ ty 230 i0 w.heap.size ((i + 1) * 3) (n - i) dc ⟨g, i * 3, none⟩ (n - i) sc (n - i) (xs.drop (i * 3)) Tryz.underlying232 hi0 (by simp only [Nat.min_def]; split <;> omega) (by rw [hzs, List.length_drop]; omega)
      (fun j u hj => by rw [Addr.add_lit]; simp only [World.cell?, hg1]; rw [List.getElem?_drop] at hj; simpa using hget _ u hj)
      (fun j hj => hB1.there (by rw [List.length_drop] at hj; omega)) (fun j hj => hB1.soft _) (fun u hu => h1 u (List.mem_of_mem_drop hu))
  have HA : Hid _ := hrz
  have HC2 : Hid _ := hcpB
  have HR : Hid (ROW = xs.take (i * 3) ++ zs) := hROW
  have HGm : Hid (G ≤ maxLen) := hGm
  have HRl : Hid (ROW.length = G * 3) := hRl
  have hz2 : ¬ ((i : Int) = (n : Int)) := by omega
  have hin : i ≤ n := by omega
  have hic : i ≤ cap := by omega
  have htn : ((i : Int) + 1).toNat = i + 1 := by omega
  have hw1 : IntKind.i64.wrap ((i : Int) + 1) = (i : Int) + 1 := by rw [IntKind.wrap_i64]; omega
  have hb1 : (0 : Int) ≤ (i : Int) + 1 := by omega
  have hb6 : (i : Int) + 1 ≤ (n : Int) + 1 := by omega
  have hGi : ¬ (G = i) := by omega
  have hGim : ¬ (G = i + 1) := by omega
  have hci : ¬ (cap = i) := by omega
  have hb3 : (i : Int) ≤ (n : Int) + 1 := by omega
  have hb5 : (cap : Int) < (n : Int) + 1 := by omega
  clear hrz hcpB hROW hRl hGm hB0 hB1 hv0 hg1 hG hzs' hrow hold hkk hik hget hxl hxs hlc h1 hv h
  go_enter Tryz.func212, Tryz.ntmps212
  go_wp2_with (at_builtin; refine Lib.wpList_append_run _ rfl _ _ _ _ rfl _ _ rfl rfl _ _ (HA.out _) ?_)
  go_region_law (refine step_copy_run rfl _ _ 232 232 rfl (.slice (some ⟨w.heap.size, (i + 1) * 3, none⟩) (n - i) (G - (i + 1))) (.slice (some ⟨g, i * 3, none⟩) (n - i) (cap - i)) (by simp [Act.eval, Act.put]) (by simp [Act.eval, Act.put]) (HC2.out 3 (G - (i + 1)) (cap - i)) ?_)
  go_wp2
  go_ret
  exact ⟨G, zs, rfl, hGn, HGm.out, by rw [← HR.out]; exact HRl.out, by rw [← HR.out]⟩
set_option maxHeartbeats 4000000 in
set_option maxRecDepth 100000 in
/-- At the end. -/
theorem insQ_end {w : World} {base vb : Nat} {v : Value} {n : Nat} {xs ys : List Value} (h : w.ownsRow base 230 3 v n xs) (hbase : base ≤ w.heap.size) (hbig : (n + 1) * 32 ≤ 140737488355328)
    (hv : w.heap[vb]? = some (.cells ys.toArray 230 (0, 0))) (hy : ys.length = 3) (hy1 : ∀ u ∈ ys, u.oneCell' = true) :
    Calls Tryz.prog 212 #[v, .int .i64 n, .slice (some ⟨vb, 0, none⟩) 1 1] w fun e w' =>
      ∃ v', e = .returned v' ∧ (v'.ownBlock = v.ownBlock ∨ v'.ownBlock = some w.heap.size) ∧ w'.ownsRow base 230 3 v' (n + 1) (xs ++ ys) ∧ Fr w w' (fun k => v.ownBlock = some k) := by
  obtain ⟨i0, hi0, hz0, hzs, hzb⟩ := info_parts mInfoQ
  have HO : Hid _ := h
  have HV : Hid _ := cells_blk hv
  have HY : Hid (ys.length = 1 * 3) := by show _ = _; rw [hy]
  have HY1 : Hid _ := hy1
  have HB : Hid (base ≤ w.heap.size) := hbase
  clear hv hy hy1
  rcases h.2 with ⟨rfl, rfl⟩ | ⟨g, cap, cur, rfl, _, _, hnc, hcm, _⟩
  · clear h
    go_enter Tryz.func212, Tryz.ntmps212
    go_wp2_with (at_builtin; refine wpList_append_own_at _ rfl _ _ 232 rfl base 230 i0 (.agg #[.int .i64 0, .int .i64 0, .string (str [])]) 3 32 Tryz.underlying232 hi0 hz0 hzs hzb rfl (by decide) _ _ _ rfl HO.out ⟨vb, 0, none⟩ 1 1 ys rfl HY.out HV.out HY1.out (by decide) (by omega) HB.out ?_)
    intro v' w1 hown hgrow _ hat
    obtain ⟨ao', m', c', rfl⟩ := own_any hown
    have HW : Hid _ := hown
    clear hown
    go_wp2
    go_ret
    exact ⟨_, rfl, hat, HW.out, Fr.grown hgrow (fun k hk => hk)⟩
  · clear h
    have hcm' : cap ≤ 9223372036854775807 := by unfold maxLen at hcm; omega
    clear hcm
    go_enter Tryz.func212, Tryz.ntmps212
    go_wp2_with (at_builtin; refine wpList_append_own_at _ rfl _ _ 232 rfl base 230 i0 (.agg #[.int .i64 0, .int .i64 0, .string (str [])]) 3 32 Tryz.underlying232 hi0 hz0 hzs hzb rfl (by decide) _ _ _ rfl HO.out ⟨vb, 0, none⟩ 1 1 ys rfl HY.out HV.out HY1.out (by unfold maxLen; omega) (by omega) HB.out ?_)
    all_goals
      intro v' w1 hown hgrow _ hat
      obtain ⟨ao', m', c', rfl⟩ := own_any hown
      have HW : Hid _ := hown
      clear hown
      go_wp2
      go_ret
      exact ⟨_, rfl, hat, HW.out, Fr.grown hgrow (fun k hk => hk)⟩
/-- slices.Insert of one element into a row of one's own. -/
theorem insQ_any {w : World} {base vb : Nat} {v : Value} {n : Nat} {xs ys : List Value} (h : w.ownsRow base 230 3 v n xs) (h1 : ∀ u ∈ xs, u.oneCell' = true) (i : Nat) (hi : i ≤ n) (hbase : base ≤ w.heap.size) (hbig : (n + 1) * 32 ≤ 140737488355328)
    (hv : w.heap[vb]? = some (.cells ys.toArray 230 (0, 0))) (hy : ys.length = 3) (hy1 : ∀ u ∈ ys, u.oneCell' = true) (hne : v.ownBlock ≠ some vb) :
    Calls Tryz.prog 212 #[v, .int .i64 i, .slice (some ⟨vb, 0, none⟩) 1 1] w fun e w' =>
      ∃ v', e = .returned v' ∧ (v'.ownBlock = v.ownBlock ∨ v'.ownBlock = some w.heap.size) ∧ w'.ownsRow base 230 3 v' (n + 1) (xs.take (i * 3) ++ ys ++ xs.drop (i * 3)) ∧ Fr w w' (fun k => v.ownBlock = some k) := by
  have hxl := h.1
  by_cases hin : i = n
  · subst hin
    have e : xs.take (i * 3) ++ ys ++ xs.drop (i * 3) = xs ++ ys := by rw [List.take_of_length_le (by omega), List.drop_of_length_le (by omega), List.append_nil]
    rw [e]
    exact insQ_end h hbase hbig hv hy hy1
  · obtain ⟨g, cap, cur, rfl, hn, hB, rfl⟩ := own_blk h (by omega)
    have hcl := hB.size
    have hnk : n * 3 ≤ cap * 3 := Nat.mul_le_mul_right _ hn
    have hlen : ((cur.take (n * 3)).drop (i * 3)).length = (n - i) * 3 := by rw [List.length_drop, hxl]; omega
    by_cases hroom : n + 1 ≤ cap
    · refine (insQ_shift hB n i (by omega) hroom h1 hv hy hy1 (fun e => hne (by rw [e]; rfl))).mono ?_
      rintro e w' ⟨rfl, rfl⟩
      have hB2 := (hB.drew.set ((i + 1) * 3) _ (by rw [hlen]; omega)).set (i * 3) ys (by omega)
      refine ⟨_, rfl, .inl rfl, ?_, ?_⟩
      · have := hB2.own hroom
        rw [ins_list (k := 3) hi (by omega) hy] at this
        exact this
      · exact ((Fr.drew w _).trans (fr_setCells g (S := fun k => Value.ownBlock (.slice (some ⟨g, 0, none⟩) n cap) = some k) rfl _ _ _) (fun _ _ h => h)).trans (fr_setCells g (S := fun k => Value.ownBlock (.slice (some ⟨g, 0, none⟩) n cap) = some k) rfl _ _ _) (fun _ _ h => h)
    · refine (insQ_grow hB n i (by omega) hn (by omega) hbig h1 hv hy hy1).mono ?_
      rintro e w' ⟨G, zs, rfl, hG, hGm, hl, rfl⟩
      have hB0 : Blk (w.alloc (.cells ((cur.take (n * 3)).take (i * 3) ++ zs).toArray 230)).drew base 230 3 w.heap.size G ((cur.take (n * 3)).take (i * 3) ++ zs) := ⟨hbase, heap_alloc_new w _, hGm, hl⟩
      have hB2 := (hB0.set (i * 3) ys (by omega)).drew.set ((i + 1) * 3) ((cur.take (n * 3)).drop (i * 3)) (by rw [hlen]; omega)
      refine ⟨_, rfl, .inr rfl, ?_, ?_⟩
      · have := hB2.own hG
        rw [grow_list (k := 3) hi hxl (by omega) hy] at this
        exact this
      · have f0 : Fr w (w.alloc (.cells ((cur.take (n * 3)).take (i * 3) ++ zs).toArray 230)).drew (fun k => Value.ownBlock (.slice (some ⟨g, 0, none⟩) n cap) = some k) := (Fr.alloc w _ _).trans (Fr.drew _ _) (fun _ _ h => h)
        have f1 := f0.trans (fr_setCells w.heap.size (S := fun k => k = w.heap.size) rfl ys (i * 3) _) (fun k hk e => by omega)
        exact (f1.trans (Fr.drew _ (fun _ => False)) (fun _ _ h => h.elim)).trans (fr_setCells w.heap.size (S := fun k => k = w.heap.size) rfl _ ((i + 1) * 3) _) (fun k hk e => by omega)
/-- One request put at its place into a row of one's own. -/
theorem insert_any {w : World} {B vb : Nat} {v : Value} {L : List Req} {x : Req} (h : RqO 230 w B v L) (i : Nat) (hi : i ≤ L.length) (hB : B ≤ w.heap.size) (hl : L.length ≤ 1000000)
    (hv : w.heap[vb]? = some (.cells #[.int .i64 x.k, .int .i64 x.n, .string x.s] 230 (0, 0))) (hne : v.ownBlock ≠ some vb) :
    Calls Tryz.prog 212 #[v, .int .i64 i, .slice (some ⟨vb, 0, none⟩) 1 1] w fun e w' =>
      ∃ v', e = .returned v' ∧ RqO 230 w' B v' (L.take i ++ x :: L.drop i) ∧ Fr w w' (fun k => v.ownBlock = some k) ∧ Row w v v' := by
  refine (insQ_any (ys := rq x) h (rq_one L) i hi hB (by omega) hv rfl (by intro u hu; simp only [rq, List.mem_cons, List.not_mem_nil, or_false] at hu; rcases hu with rfl | rfl | rfl <;> rfl) hne).mono ?_
  rintro e w' ⟨v', rfl, hat, hown, hf⟩
  refine ⟨v', rfl, ?_, hf, ?_⟩
  · unfold RqO
    have e1 : (L.take i ++ x :: L.drop i).length = L.length + 1 := by
      rw [List.length_append, List.length_take, List.length_cons, List.length_drop]
      omega
    rw [e1, List.flatMap_append, List.flatMap_cons, ← rq_take, ← rq_drop, ← List.append_assoc]
    exact hown
  · rcases hat with hat | hat
    · exact .inl hat
    · exact .inr ⟨_, hat, Nat.le_refl _⟩
end Go.Proofs.YthkfbaoeimjgaaaGreat
end

section
/- A table of sessions in memory: New, Len, find, last, Seq. -/
namespace Go.Proofs.YthkfbaoeimjgaaaGreat
open Go.RowKit
attribute [local go_sem] Oper.semAt_some
/-- A table at p: its box, its row. -/
structure TA (w : World) (B p : Nat) (v : Value) (L : List Req) : Prop where
  box : w.heap[p]? = some (.cells #[v] 234 (0, 0))
  low : B ≤ p
  row : RqO 230 w B v L
section
variable {w w' : World} {B p : Nat} {v : Value} {L : List Req}
theorem TA.lt (h : TA w B p v L) : p < w.heap.size := slt_blk h.box
theorem TA.c0 (h : TA w B p v L) : w.cell? ⟨p, 0, none⟩ = some v := by simp [World.cell?, h.box]
theorem TA.f0 (h : TA w B p v L) : w.frozen? ⟨p, 0, none⟩ = false := by simp [World.frozen?, h.box]
theorem TA.ne (h : TA w B p v L) : v.ownBlock ≠ some p := fun e => by
  obtain ⟨_, c, f, hk⟩ := srow_tag h.row e
  rw [h.box] at hk
  simp at hk
theorem TA.kept (h : TA w B p v L) {S : Nat → Prop} (f : Fr w w' S) (hp : ¬ S p) (hv : ∀ k, v.ownBlock = some k → ¬ S k) : TA w' B p v L := ⟨(f.block p h.lt hp).trans h.box, h.low, h.row.kept f hv⟩
theorem TA.new (h : TA w B p v L) (hb : Below w.heap.size w w') : TA w' B p v L := h.kept (Fr.ofBelow hb (fun _ => False)) (fun h => h) (fun _ _ h => h)
theorem TA.base (h : TA w B p v L) : B ≤ w.heap.size := by have := h.low; have := h.lt; omega
end
/-- What a call on a table leaves. -/
def TTo (w w' : World) (B p : Nat) (v : Value) (L : List Req) : Prop := ∃ v', TA w' B p v' L ∧ Fr w w' (fun k => k = p ∨ v.ownBlock = some k) ∧ Row w v v'
theorem TTo.same {w w' : World} {B p : Nat} {v : Value} {L : List Req} (h : TA w B p v L) (hb : Below w.heap.size w w') : TTo w w' B p v L := ⟨v, h.new hb, Fr.ofBelow hb _, Row.refl _ _⟩
theorem TTo.then {w w1 w2 : World} {B p : Nat} {v v1 : Value} {L : List Req} (f : Fr w w1 (fun k => k = p ∨ v.ownBlock = some k)) (hr : Row w v v1) (h : TTo w1 w2 B p v1 L) : TTo w w2 B p v L := by
  obtain ⟨v2, h2, f2, r2⟩ := h
  refine ⟨v2, h2, f.trans f2 (fun k hk e => ?_), hr.trans r2 f.size⟩
  rcases e with e | e
  · exact .inl e
  · rcases hr with hr | ⟨g, hr, hg⟩
    · exact .inr (hr ▸ e)
    · rw [hr] at e
      cases e
      omega
theorem size_ask : (Tryz.prog.info? 230).map (·.size) = some 3 := by kernel_rfl
theorem snew (w : World) (B : Nat) (hB : B ≤ w.heap.size) : Calls Tryz.prog 136 #[] w fun r w' => r = .returned (.pointer (some ⟨w.heap.size, 0, none⟩)) ∧ TA w' B w.heap.size (.slice none 0 0) [] ∧ Below w.heap.size w w' := by
  go_enter Tryz.func136, Tryz.ntmps136
  go_wp2
  go_ret
  exact ⟨rfl, ⟨heap_alloc_new _ _, hB, RqO.nil _ _ _⟩, sone_new _ _⟩
theorem sfind {w : World} {B p : Nat} {v : Value} {L : List Req} (x : Int) (h : TA w B p v L) (hl : L.length ≤ 1000000) (hr : RiseQ L) : Calls Tryz.prog 184 #[.pointer (some ⟨p, 0, none⟩), .int .i64 x] w fun r w' => r = .returned (.tuple #[.int .i64 (posR L x), .bool (isR L x)]) ∧ Below w.heap.size w w' := by
  have c0 := h.c0
  have HS : Hid (RqS w v L) := h.row.toS
  obtain ⟨ao, c, rfl, _⟩ := h.row.shape
  have hB := sbsearch x HS.out (by omega) hr
  clear h hr
  go_enter Tryz.func184, Tryz.ntmps184
  go_wp2_with (go_at_call 224; refine hB.mono ?_; rintro r w1 ⟨rfl, hb1⟩)
  go_ret2
  exact ⟨rfl, hb1⟩
theorem sblk_set {w : World} {g i : Nat} {cs : Array Value} {t : TypeId} (v : Value) (h : w.heap[g]? = some (.cells cs t (0, 0))) : (w.setCell ⟨g, i, none⟩ v).heap[g]? = some (.cells (cs.setIfInBounds i v) t (0, 0)) := by
  have hlt := slt_blk h
  have h' : w.heap[g] = .cells cs t (0, 0) := by simpa [Array.getElem?_eq_getElem hlt] using h
  show (w.heap.modify g _)[g]? = _
  rw [Array.getElem?_eq_getElem (by simpa using hlt), Array.getElem_modify_self, h']
  rfl
theorem sset3 {W : World} {q : Nat} {t : TypeId} {x0 x1 x2 : Value} (a b c : Value) (h : W.heap[q]? = some (.cells #[x0, x1, x2] t (0, 0))) : (((W.setCell ⟨q, 0, none⟩ a).setCell ⟨q, 1, none⟩ b).setCell ⟨q, 2, none⟩ c).heap[q]? = some (.cells #[a, b, c] t (0, 0)) := sblk_set (i := 2) c (sblk_set (i := 1) b (sblk_set (i := 0) a h))
theorem sset3_fr (W : World) (q : Nat) (a b c : Value) : Fr W (((W.setCell ⟨q, 0, none⟩ a).setCell ⟨q, 1, none⟩ b).setCell ⟨q, 2, none⟩ c) (fun k => k = q) := ((Fr.setCell (S := fun k => k = q) W ⟨q, 0, none⟩ a rfl).trans (Fr.setCell (S := fun k => k = q) _ ⟨q, 1, none⟩ b rfl) (fun _ _ h => h)).trans (Fr.setCell (S := fun k => k = q) _ ⟨q, 2, none⟩ c rfl) (fun _ _ h => h)
theorem sbox3 {W : World} {q : Nat} {t : TypeId} {x0 x1 x2 : Value} (h : W.heap[q]? = some (.cells #[x0, x1, x2] t (0, 0))) : W.cell? ⟨q, 0, none⟩ = some x0 ∧ W.cell? ⟨q, 1, none⟩ = some x1 ∧ W.cell? ⟨q, 2, none⟩ = some x2 ∧ W.frozen? ⟨q, 0, none⟩ = false ∧ W.frozen? ⟨q, 1, none⟩ = false ∧ W.frozen? ⟨q, 2, none⟩ = false := by
  refine ⟨?_, ?_, ?_, ?_, ?_, ?_⟩ <;> simp [World.cell?, World.frozen?, h]
set_option maxRecDepth 100000 in
set_option maxHeartbeats 1000000 in
theorem slast {w : World} {B p : Nat} {v : Value} {L : List Req} (x : Int) (h : TA w B p v L) (hl : L.length ≤ 1000000) (hr : RiseQ L) : Calls Tryz.prog 137 #[.pointer (some ⟨p, 0, none⟩), .int .i64 x] w fun r w' => r = .returned (.agg #[.int .i64 (lastR L x).k, .int .i64 (lastR L x).n, .string (lastR L x).s]) ∧ Below w.heap.size w w' := by
  have HT : Hid (TA w B p v L) := h
  have HR : Hid (RiseQ L) := hr
  clear h hr
  go_enter Tryz.func137, Tryz.ntmps137
  go_upto_region 1 with (fail)
  generalize hW : World.alloc _ _ = W
  have hB : Below w.heap.size w W := by rw [← hW]; exact sone_new w _
  have hZ : W.heap[w.heap.size]? = some (.cells #[.int .i64 0, .int .i64 0, .string (str [])] 230 (0, 0)) := by rw [← hW]; exact heap_alloc_new w _
  clear hW
  obtain ⟨q, hq⟩ : ∃ q, w.heap.size = q := ⟨_, rfl⟩
  have HB : Hid (Below q w W) := by rw [← hq]; exact hB
  have HQ : Hid (w.heap.size = q) := hq
  rw [hq] at hZ ⊢
  have HZ : Hid (W.heap[q]? = some (.cells #[.int .i64 0, .int .i64 0, .string (str [])] 230 (0, 0))) := hZ
  have HT1 : Hid (TA W B p v L) := HT.out.new hB
  clear hB hZ hq
  have hF := sfind x HT1.out hl HR.out
  have HP : Hid (posR L x ≤ L.length) := posR_le L x
  go_upto_region 2 with (go_at_call 184; refine hF.mono ?_; rintro r w1 ⟨rfl, hb1⟩)
  have HT2 : Hid (TA w1 B p v L) := HT1.out.new hb1
  have HZ2 : Hid (w1.heap[q]? = some (.cells #[.int .i64 0, .int .i64 0, .string (str [])] 230 (0, 0))) := (hb1.block q (slt_blk HZ.out)).trans HZ.out
  have HB2 : Hid (Below q w w1) := HB.out.trans (hb1.mono (by have := HQ.out; have := HB.out.size; omega))
  obtain ⟨z0, z1, z2, f0, f1, f2⟩ := sbox3 HZ2.out
  have HFin : Hid (∀ a b c, Below q w (((w1.setCell ⟨q, 0, none⟩ a).setCell ⟨q, 1, none⟩ b).setCell ⟨q, 2, none⟩ c)) := fun a b c => HB2.out.trans ((sset3_fr w1 q a b c).below (by have := HQ.out; have := HB2.out.size; omega) (fun k hk => by omega))
  clear hF hb1
  by_cases hi : isR L x = true
  · have HI : Hid (isR L x = true) := hi
    have hlt : posR L x < L.length := by
      unfold isR at hi
      cases e : L[posR L x]? with
      | none => rw [e] at hi; simp at hi
      | some y => exact (List.getElem?_eq_some_iff.1 e).1
    have HE : Hid (lastR L x = L[posR L x]) := by
      show _ = _
      unfold isR at hi
      unfold lastR
      rw [List.getElem?_eq_getElem hlt] at hi ⊢
      simp only at hi ⊢
      rw [if_pos (by simpa using hi)]
    have c0 := HT2.out.c0
    obtain ⟨ao, c, rfl, hcap, hg⟩ := HT2.out.row.shape
    obtain ⟨g, rfl⟩ := hg (by omega)
    obtain ⟨e0, e1, e2⟩ := HT2.out.row.at_ _ hlt
    generalize L[posR L x] = y at e0 e1 e2 HE
    rw [hi]
    generalize posR L x = j at hlt e0 e1 e2 ⊢
    clear hi
    go_wp2
    refine bodyPost_ret (v := .agg #[.int .i64 y.k, .int .i64 y.n, .string y.s]) (results_cell_row Tryz.results137 _ _ q 230 _ (0, 0) _ rfl (sset3 _ _ _ HZ2.out) Tryz.underlying230 rfl size_ask) rfl ?_
    exact ⟨by rw [HE.out], by rw [HQ.out]; exact HFin.out _ _ _⟩
  · have hif : isR L x = false := by simpa using hi
    have HE : Hid (lastR L x = ⟨x, 0, str []⟩) := by
      show _ = _
      unfold isR at hif
      unfold lastR
      cases e : L[posR L x]? with
      | none => rfl
      | some y =>
        rw [e] at hif
        simp only at hif ⊢
        rw [if_neg (by simpa using hif)]
    rw [hif]
    clear hi hif
    go_wp2
    refine bodyPost_ret (v := .agg #[.int .i64 x, .int .i64 0, .string (str [])]) (results_cell_row Tryz.results137 _ _ q 230 _ (0, 0) _ rfl (sset3 _ _ _ HZ2.out) Tryz.underlying230 rfl size_ask) rfl ?_
    exact ⟨by rw [HE.out], by rw [HQ.out]; exact HFin.out _ _ _⟩
theorem sseq {w : World} {B p : Nat} {v : Value} {L : List Req} (x : Int) (h : TA w B p v L) (hl : L.length ≤ 1000000) (hr : RiseQ L) : Calls Tryz.prog 174 #[.pointer (some ⟨p, 0, none⟩), .int .i64 x] w fun r w' => r = .returned (.int .i64 (lastR L x).n) ∧ Below w.heap.size w w' := by
  have hF := slast x h hl hr
  have hf : ∀ (a b : Int) (s : ByteArray) (W : World), (Instr.field 230 (.agg #[.int .i64 a, .int .i64 b, .string s]) 1).run Tryz.prog W = .ok (.int .i64 b) W := fun a b s W => by kernel_rfl
  clear h hr
  go_enter Tryz.func174, Tryz.ntmps174
  go_wp2_with (go_at_call 137; refine hF.mono ?_; rintro r w1 ⟨rfl, hb1⟩)
  go_ret
  exact ⟨rfl, hb1⟩
end Go.Proofs.YthkfbaoeimjgaaaGreat
end

section
/- keep: a request is made the last one of its session. -/
namespace Go.Proofs.YthkfbaoeimjgaaaGreat
open Go.RowKit Go.Maps
attribute [local go_sem] Oper.semAt_some
theorem wp_calmS {P : Program} {c : Code} {Q : Exit → Act → World → Prop} {a : Act} {w : World} (h : c.wp P (Exit.then (fun a w => Q .normal a w) (fun _ _ _ => False)) a w) : c.wp P Q a w := Code.wp_mono (fun e a w h => by cases e <;> first | exact h | exact h.elim) h
theorem rq_set (l : List Req) (j : Nat) (x : Req) (hj : j < l.length) : (((l.flatMap rq).set (j * 3) (.int .i64 x.k)).set (j * 3 + 1) (.int .i64 x.n)).set (j * 3 + 2) (.string x.s) = (l.set j x).flatMap rq := by
  induction l generalizing j with
  | nil => simp at hj
  | cons c r ih =>
    rw [List.flatMap_cons]
    cases j with
    | zero => simp [rq]
    | succ j =>
      have h1 := ih j (by simpa using hj)
      rw [List.set_cons_succ, List.flatMap_cons, ← h1]
      have e : ∀ (m : List Value) (i : Nat) (u : Value), (rq c ++ m).set ((j + 1) * 3 + i) u = rq c ++ m.set (j * 3 + i) u := fun m i u => by
        have hl : (rq c).length = 3 := rfl
        rw [List.set_append_right _ _ (by rw [hl]; omega), hl, show (j + 1) * 3 + i - 3 = j * 3 + i by omega]
      have e0 := fun m u => e m 0 u
      simp only [Nat.add_zero] at e0
      rw [e0, e, e]
theorem RqO.set {e : TypeId} {w : World} {B g n cap : Nat} {L : List Req} (h : RqO e w B (.slice (some ⟨g, 0, none⟩) n cap) L) (j : Nat) (hj : j < L.length) (x : Req) : RqO e (((w.setCell ⟨g, j * 3, none⟩ (.int .i64 x.k)).setCell ⟨g, j * 3 + 1, none⟩ (.int .i64 x.n)).setCell ⟨g, j * 3 + 2, none⟩ (.string x.s)) B (.slice (some ⟨g, 0, none⟩) n cap) (L.set j x) := by
  obtain ⟨h1, h2⟩ := h
  rcases h2 with ⟨h2, _⟩ | ⟨g', cap', cur, hv, h3, h4, h5, h6, h7, h8⟩
  · cases h2
  · cases hv
    refine ⟨by rw [rq_len], .inr ⟨g, cap, ((cur.setIfInBounds (j * 3) (.int .i64 x.k)).setIfInBounds (j * 3 + 1) (.int .i64 x.n)).setIfInBounds (j * 3 + 2) (.string x.s), by rw [List.length_set], h3, sblk_set (i := j * 3 + 2) _ (sblk_set (i := j * 3 + 1) _ (sblk_set (i := j * 3) _ h4)), by rw [List.length_set]; exact h5, h6, by simpa using h7, ?_⟩⟩
    rw [← rq_set L j x hj, ← h8, List.length_set]
    simp only [Array.toList_setIfInBounds, List.take_set]
theorem RqO.soft {e : TypeId} {w : World} {B g n cap : Nat} {L : List Req} (h : RqO e w B (.slice (some ⟨g, 0, none⟩) n cap) L) (i : Nat) : w.frozen? ⟨g, i, none⟩ = false := by
  rcases h.2 with ⟨h2, _⟩ | ⟨g', cap', cur, hv, h3, h4, _⟩
  · cases h2
  · cases hv
    simp [World.frozen?, h4]
theorem sset3g_fr (W : World) (g i : Nat) (a b c : Value) : Fr W (((W.setCell ⟨g, i, none⟩ a).setCell ⟨g, i + 1, none⟩ b).setCell ⟨g, i + 2, none⟩ c) (fun k => k = g) := ((Fr.setCell (S := fun k => k = g) W ⟨g, i, none⟩ a rfl).trans (Fr.setCell (S := fun k => k = g) _ ⟨g, i + 1, none⟩ b rfl) (fun _ _ h => h)).trans (Fr.setCell (S := fun k => k = g) _ ⟨g, i + 2, none⟩ c rfl) (fun _ _ h => h)
set_option maxRecDepth 100000 in
set_option maxHeartbeats 2000000 in
theorem skeep {w : World} {B p : Nat} {v : Value} {L : List Req} (h : TA w B p v L) (hl : L.length ≤ 1000000) (hr : RiseQ L) {a : Req} (ha : a.n ≠ 0) : Calls Tryz.prog 172 #[.pointer (some ⟨p, 0, none⟩), .agg #[.int .i64 a.k, .int .i64 a.n, .string a.s]] w fun r w' => r = .returned (.tuple #[]) ∧ TTo w w' B p v (putR L a) := by
  have HT : Hid (TA w B p v L) := h
  have HR : Hid (RiseQ L) := hr
  have hn0 : ¬ a.n = 0 := ha
  clear h hr ha
  go_enter Tryz.func172, Tryz.ntmps172
  go_upto_region 1 with (fail)
  generalize hW : World.alloc _ _ = W
  have hB : Below w.heap.size w W := by rw [← hW]; exact sone_new w _
  have hZ : W.heap[w.heap.size]? = some (.cells #[.int .i64 a.k, .int .i64 a.n, .string a.s] 230 (0, 0)) := by rw [← hW]; exact heap_alloc_new w _
  clear hW
  have HQ : Hid (∀ k, v.ownBlock = some k → k < w.heap.size) := fun k hk => (HT.out.row.lt k hk).2
  have HPq : Hid (p < w.heap.size) := HT.out.lt
  obtain ⟨q, hq⟩ : ∃ q, w.heap.size = q := ⟨_, rfl⟩
  have HT1 : Hid (TA W B p v L) := HT.out.new hB
  have HB : Hid (Below w.heap.size w W) := hB
  have HE : Hid (w.heap.size = q) := hq
  rw [hq] at hZ ⊢
  have HZ : Hid (W.heap[q]? = some (.cells #[.int .i64 a.k, .int .i64 a.n, .string a.s] 230 (0, 0))) := hZ
  obtain ⟨u0, u1, u2, _, _, _⟩ := sbox3 hZ
  clear hB hZ hq HT
  have hF := sfind a.k HT1.out hl HR.out
  have HP : Hid (posR L a.k ≤ L.length) := posR_le L a.k
  by_cases hi : isR L a.k = true
  · have hlt : posR L a.k < L.length := by
      unfold isR at hi
      cases e : L[posR L a.k]? with
      | none => rw [e] at hi; simp at hi
      | some y => exact (List.getElem?_eq_some_iff.1 e).1
    have HPut : Hid (putR L a = L.set (posR L a.k) a) := by
      show _ = _
      unfold putR
      rw [if_pos hi]
    rw [hi] at hF
    generalize posR L a.k = j at hlt HPut hF HP
    clear hi
    go_upto_region 3 with (go_at_call 184; refine hF.mono ?_; rintro r w1 ⟨rfl, hb1⟩)
    have HT2 : Hid (TA w1 B p v L) := HT1.out.new hb1
    have HZ2 : Hid (w1.heap[q]? = some (.cells #[.int .i64 a.k, .int .i64 a.n, .string a.s] 230 (0, 0))) := (hb1.block q (slt_blk HZ.out)).trans HZ.out
    have HB2 : Hid (Below w.heap.size w w1) := HB.out.trans (hb1.mono HB.out.size)
    obtain ⟨z0, z1, z2, _, _, _⟩ := sbox3 HZ2.out
    clear hF hb1 u0 u1 u2
    go_upto_region 6 with (fail)
    obtain ⟨ao, c, rfl, hcap, hg⟩ := HT2.out.row.shape
    obtain ⟨g, rfl⟩ := hg (by omega)
    obtain ⟨Wd, hWd⟩ : ∃ Wd, w1.drew = Wd := ⟨_, rfl⟩
    have bd : Below w1.heap.size w1 Wd := by rw [← hWd]; exact Below.drew (Below.refl _ _)
    have HT3 : Hid (TA Wd B p (.slice (some ⟨g, 0, none⟩) L.length c) L) := HT2.out.new bd
    have c0 := HT3.out.c0
    have HZ3 : Wd.heap[q]? = some (.cells #[.int .i64 a.k, .int .i64 a.n, .string a.s] 230 (0, 0)) := (bd.block q (slt_blk HZ2.out)).trans HZ2.out
    obtain ⟨y0, y1, y2, _, _, _⟩ := sbox3 HZ3
    obtain ⟨e0, e1, e2⟩ := HT3.out.row.at_ j hlt
    have s0 := HT3.out.row.soft (j * 3)
    have s1 := HT3.out.row.soft (j * 3 + 1)
    have s2 := HT3.out.row.soft (j * 3 + 2)
    generalize L[j] = old at e0 e1 e2
    have hcL : (j : Int) < L.length := by omega
    refine wp_calmS ?_
    refine wp_region_L [7] (fun w' : World => w'.cell? ⟨p, 0, none⟩ = some (.slice (some ⟨g, 0, none⟩) L.length c) ∧ w'.cell? ⟨q, 0, none⟩ = some (.int .i64 a.k) ∧ w'.cell? ⟨q, 1, none⟩ = some (.int .i64 a.n) ∧ w'.cell? ⟨q, 2, none⟩ = some (.string a.s)) (by kernel_rfl) ?_
    rw [hWd]
    have hS : (fun w' : World => w'.cell? ⟨p, 0, none⟩ = some (.slice (some ⟨g, 0, none⟩) L.length c) ∧ w'.cell? ⟨q, 0, none⟩ = some (.int .i64 a.k) ∧ w'.cell? ⟨q, 1, none⟩ = some (.int .i64 a.n) ∧ w'.cell? ⟨q, 2, none⟩ = some (.string a.s)) Wd := ⟨c0, y0, y1, y2⟩
    refine wpAnyL_take (i := 0) 44 (v := .pointer (some ⟨p, 0, none⟩)) rfl rfl (by kernel_rfl) (by kernel_rfl) (by kernel_rfl) (by kernel_rfl) (by kernel_rfl) (by kernel_rfl) (fun _ _ _ h => h) hS (by rfl) (by intro w' hSw; obtain ⟨y0, y1, y2, y3⟩ := hSw; go_simp <;> with_reducible rfl) ?_
    simp only [Act.put, List.setIfInBounds_toArray, List.set_cons_zero, List.set_cons_succ]
    refine wpAnyL_take (i := 1) 45 (v := .pointer (some ⟨p, 0, none⟩)) rfl rfl (by kernel_rfl) (by kernel_rfl) (by kernel_rfl) (by kernel_rfl) (by kernel_rfl) (by kernel_rfl) (fun _ _ _ h => h) hS (by rfl) (by intro w' hSw; obtain ⟨y0, y1, y2, y3⟩ := hSw; go_simp <;> with_reducible rfl) ?_
    simp only [Act.put, List.setIfInBounds_toArray, List.set_cons_zero, List.set_cons_succ]
    refine wpAnyL_take (i := 2) 46 (v := .pointer (some ⟨p, 0, none⟩)) rfl rfl (by kernel_rfl) (by kernel_rfl) (by kernel_rfl) (by kernel_rfl) (by kernel_rfl) (by kernel_rfl) (fun _ _ _ h => h) hS (by rfl) (by intro w' hSw; obtain ⟨y0, y1, y2, y3⟩ := hSw; go_simp <;> with_reducible rfl) ?_
    simp only [Act.put, List.setIfInBounds_toArray, List.set_cons_zero, List.set_cons_succ]
    refine wpAnyL_take (i := 3) 47 (v := .slice (some ⟨g, 0, none⟩) L.length c) rfl rfl (by kernel_rfl) (by kernel_rfl) (by kernel_rfl) (by kernel_rfl) (by kernel_rfl) (by kernel_rfl) (fun _ _ _ h => h) hS (by rfl) (by intro w' hSw; obtain ⟨y0, y1, y2, y3⟩ := hSw; go_simp <;> with_reducible rfl) ?_
    simp only [Act.put, List.setIfInBounds_toArray, List.set_cons_zero, List.set_cons_succ]
    refine wpAnyL_take (i := 4) 48 (v := .int .i64 j) rfl rfl (by kernel_rfl) (by kernel_rfl) (by kernel_rfl) (by kernel_rfl) (by kernel_rfl) (by kernel_rfl) (fun _ _ _ h => h) hS (by rfl) (by intro w' hSw; obtain ⟨y0, y1, y2, y3⟩ := hSw; go_simp <;> with_reducible rfl) ?_
    simp only [Act.put, List.setIfInBounds_toArray, List.set_cons_zero, List.set_cons_succ]
    refine wpAnyL_take (i := 5) 49 (v := .agg #[.int .i64 a.k, .int .i64 a.n, .string a.s]) rfl rfl (by kernel_rfl) (by kernel_rfl) (by kernel_rfl) (by kernel_rfl) (by kernel_rfl) (by kernel_rfl) (fun _ _ _ h => h) hS (by rfl) (by intro w' hSw; obtain ⟨y0, y1, y2, y3⟩ := hSw; go_simp <;> with_reducible rfl) ?_
    simp only [Act.put, List.setIfInBounds_toArray, List.set_cons_zero, List.set_cons_succ]
    refine wpAnyL_take (i := 6) 50 (v := .pointer (some ⟨g, j * 3, none⟩)) rfl rfl (by kernel_rfl) (by kernel_rfl) (by kernel_rfl) (by kernel_rfl) (by kernel_rfl) (by kernel_rfl) (fun _ _ _ h => h) hS (by rfl) (by intro w' hSw; obtain ⟨y0, y1, y2, y3⟩ := hSw; go_simp <;> with_reducible rfl) ?_
    simp only [Act.put, List.setIfInBounds_toArray, List.set_cons_zero, List.set_cons_succ]
    refine wpAnyL_one (i := 7) (by kernel_rfl) rfl (fun Ka hKa => ?_)
    go_simp
    refine hKa.out _ _ (fun h => absurd h (Bool.eq_false_iff.1 (by kernel_rfl))) ?_
    clear hKa Ka
    refine wpAnyL_done (by kernel_rfl) ?_ _
    go_wp2
    go_end0
    refine ⟨rfl, ?_⟩
    rw [HPut.out]
    have f3 := sset3g_fr Wd g (j * 3) (.int .i64 a.k) (.int .i64 a.n) (.string a.s)
    have hne := HT3.out.ne
    have f1 : Fr w Wd (fun k => k = p ∨ (Value.slice (some ⟨g, 0, none⟩) L.length c).ownBlock = some k) := Fr.ofBelow (HB2.out.trans (bd.mono HB2.out.size)) _
    refine ⟨_, ⟨(f3.block p HT3.out.lt (fun e => hne (by rw [e]; rfl))).trans HT3.out.box, HT3.out.low, HT3.out.row.set j hlt a⟩, f1.trans f3 (fun k _ e => .inr (by rw [e]; rfl)), Row.refl _ _⟩
  · have hif : isR L a.k = false := by simpa using hi
    have HPut : Hid (putR L a = L.take (posR L a.k) ++ a :: L.drop (posR L a.k)) := by
      show _ = _
      unfold putR
      rw [if_neg hi]
    rw [hif] at hF
    generalize posR L a.k = j at HPut hF HP
    clear hi hif
    go_upto_region 3 with (go_at_call 184; refine hF.mono ?_; rintro r w1 ⟨rfl, hb1⟩)
    have HT2 : Hid (TA w1 B p v L) := HT1.out.new hb1
    have HZ2 : Hid (w1.heap[q]? = some (.cells #[.int .i64 a.k, .int .i64 a.n, .string a.s] 230 (0, 0))) := (hb1.block q (slt_blk HZ.out)).trans HZ.out
    have HB2 : Hid (Below w.heap.size w w1) := HB.out.trans (hb1.mono HB.out.size)
    obtain ⟨z0, z1, z2, _, _, _⟩ := sbox3 HZ2.out
    clear hF hb1 u0 u1 u2
    go_upto_region 2 with (fail)
    obtain ⟨ao, c, rfl, hcap, hg⟩ := HT2.out.row.shape
    obtain ⟨Wd, hWd⟩ : ∃ Wd, w1.drew = Wd := ⟨_, rfl⟩
    have bd : Below w1.heap.size w1 Wd := by rw [← hWd]; exact Below.drew (Below.refl _ _)
    have HT3 : Hid (TA Wd B p (.slice ao L.length c) L) := HT2.out.new bd
    have c0 := HT3.out.c0
    have HZ3 : Wd.heap[q]? = some (.cells #[.int .i64 a.k, .int .i64 a.n, .string a.s] 230 (0, 0)) := (bd.block q (slt_blk HZ2.out)).trans HZ2.out
    obtain ⟨y0, y1, y2, _, _, _⟩ := sbox3 HZ3
    refine wp_calmS ?_
    refine wp_region_L [11] (fun w' : World => w'.cell? ⟨p, 0, none⟩ = some (.slice ao L.length c) ∧ w'.cell? ⟨q, 0, none⟩ = some (.int .i64 a.k) ∧ w'.cell? ⟨q, 1, none⟩ = some (.int .i64 a.n) ∧ w'.cell? ⟨q, 2, none⟩ = some (.string a.s)) (by kernel_rfl) ?_
    rw [hWd]
    have hS : (fun w' : World => w'.cell? ⟨p, 0, none⟩ = some (.slice ao L.length c) ∧ w'.cell? ⟨q, 0, none⟩ = some (.int .i64 a.k) ∧ w'.cell? ⟨q, 1, none⟩ = some (.int .i64 a.n) ∧ w'.cell? ⟨q, 2, none⟩ = some (.string a.s)) Wd := ⟨c0, y0, y1, y2⟩
    refine wpAnyL_take (i := 0) 13 (v := .pointer (some ⟨p, 0, none⟩)) rfl rfl (by kernel_rfl) (by kernel_rfl) (by kernel_rfl) (by kernel_rfl) (by kernel_rfl) (by kernel_rfl) (fun _ _ _ h => h) hS (by rfl) (by intro w' hSw; obtain ⟨y0, y1, y2, y3⟩ := hSw; go_simp <;> with_reducible rfl) ?_
    simp only [Act.put, List.setIfInBounds_toArray, List.set_cons_zero, List.set_cons_succ]
    refine wpAnyL_take (i := 1) 14 (v := .pointer (some ⟨p, 0, none⟩)) rfl rfl (by kernel_rfl) (by kernel_rfl) (by kernel_rfl) (by kernel_rfl) (by kernel_rfl) (by kernel_rfl) (fun _ _ _ h => h) hS (by rfl) (by intro w' hSw; obtain ⟨y0, y1, y2, y3⟩ := hSw; go_simp <;> with_reducible rfl) ?_
    simp only [Act.put, List.setIfInBounds_toArray, List.set_cons_zero, List.set_cons_succ]
    refine wpAnyL_take (i := 2) 15 (v := .pointer (some ⟨p, 0, none⟩)) rfl rfl (by kernel_rfl) (by kernel_rfl) (by kernel_rfl) (by kernel_rfl) (by kernel_rfl) (by kernel_rfl) (fun _ _ _ h => h) hS (by rfl) (by intro w' hSw; obtain ⟨y0, y1, y2, y3⟩ := hSw; go_simp <;> with_reducible rfl) ?_
    simp only [Act.put, List.setIfInBounds_toArray, List.set_cons_zero, List.set_cons_succ]
    refine wpAnyL_take (i := 3) 16 (v := .pointer (some ⟨p, 0, none⟩)) rfl rfl (by kernel_rfl) (by kernel_rfl) (by kernel_rfl) (by kernel_rfl) (by kernel_rfl) (by kernel_rfl) (fun _ _ _ h => h) hS (by rfl) (by intro w' hSw; obtain ⟨y0, y1, y2, y3⟩ := hSw; go_simp <;> with_reducible rfl) ?_
    simp only [Act.put, List.setIfInBounds_toArray, List.set_cons_zero, List.set_cons_succ]
    refine wpAnyL_take (i := 4) 17 (v := .slice ao L.length c) rfl rfl (by kernel_rfl) (by kernel_rfl) (by kernel_rfl) (by kernel_rfl) (by kernel_rfl) (by kernel_rfl) (fun _ _ _ h => h) hS (by rfl) (by intro w' hSw; obtain ⟨y0, y1, y2, y3⟩ := hSw; go_simp <;> with_reducible rfl) ?_
    simp only [Act.put, List.setIfInBounds_toArray, List.set_cons_zero, List.set_cons_succ]
    refine wpAnyL_take (i := 5) 18 (v := .int .i64 j) rfl rfl (by kernel_rfl) (by kernel_rfl) (by kernel_rfl) (by kernel_rfl) (by kernel_rfl) (by kernel_rfl) (fun _ _ _ h => h) hS (by rfl) (by intro w' hSw; obtain ⟨y0, y1, y2, y3⟩ := hSw; go_simp <;> with_reducible rfl) ?_
    simp only [Act.put, List.setIfInBounds_toArray, List.set_cons_zero, List.set_cons_succ]
    refine wpAnyL_take (i := 6) 19 (v := .agg #[.int .i64 a.k, .int .i64 a.n, .string a.s]) rfl rfl (by kernel_rfl) (by kernel_rfl) (by kernel_rfl) (by kernel_rfl) (by kernel_rfl) (by kernel_rfl) (fun _ _ _ h => h) hS (by rfl) (by intro w' hSw; obtain ⟨y0, y1, y2, y3⟩ := hSw; go_simp <;> with_reducible rfl) ?_
    simp only [Act.put, List.setIfInBounds_toArray, List.set_cons_zero, List.set_cons_succ]
    refine wpAnyL_one (i := 7) (by kernel_rfl) rfl (fun Ka hKa => ?_)
    go_simp
    generalize hX : World.alloc _ _ = X
    have bx : Below Wd.heap.size Wd X := by rw [← hX]; exact sone_new _ _
    have hXn : X.heap[Wd.heap.size]? = some (.cells #[.int .i64 a.k, .int .i64 a.n, .string a.s] 230 (0, 0)) := by rw [← hX]; exact heap_alloc_new _ _
    have HT4 : Hid (TA X B p (.slice ao L.length c) L) := HT3.out.new bx
    have hS4 : (fun w' : World => w'.cell? ⟨p, 0, none⟩ = some (.slice ao L.length c) ∧ w'.cell? ⟨q, 0, none⟩ = some (.int .i64 a.k) ∧ w'.cell? ⟨q, 1, none⟩ = some (.int .i64 a.n) ∧ w'.cell? ⟨q, 2, none⟩ = some (.string a.s)) X := ⟨HT4.out.c0, (bx.cell (p := ⟨q, 0, none⟩) (slt_cell y0)).trans y0, (bx.cell (p := ⟨q, 1, none⟩) (slt_cell y1)).trans y1, (bx.cell (p := ⟨q, 2, none⟩) (slt_cell y2)).trans y2⟩
    refine hKa.out _ _ (fun _ => hS4) ?_
    clear hKa Ka
    try simp only [Act.put, List.setIfInBounds_toArray, List.set_cons_zero, List.set_cons_succ]
    have hI := insert_any (vb := Wd.heap.size) HT4.out.row j HP.out HT4.out.base hl hXn (fun e => by have := (HT3.out.row.lt _ e).2; omega)
    have HXl : Hid (Below w.heap.size w X) := HB2.out.trans ((bd.mono HB2.out.size).trans (bx.mono (by have := HB2.out.size; have := bd.size; omega)))
    generalize hvb : Wd.heap.size = vb at hI ⊢
    clear hX bx hXn hvb
    refine wpAnyL_one (i := 8) (by kernel_rfl) rfl (fun Ka hKa => ?_)
    go_simp
    refine Calls.mono hI ?_
    rintro r X2 ⟨v2, rfl, hrow, hf2, hrw⟩
    generalize L.take j ++ a :: L.drop j = M at hrow HPut
    have hpo : ¬ (Value.slice ao L.length c).ownBlock = some p := HT4.out.ne
    have hqo : ¬ (Value.slice ao L.length c).ownBlock = some q := fun e => by have h1 := HQ.out q e; have h2 := HE.out; omega
    have c4 : X2.cell? ⟨p, 0, none⟩ = some (.slice ao L.length c) := sfr_cell hf2 hpo HT4.out.c0
    have hS5 : (fun w' : World => w'.cell? ⟨p, 0, none⟩ = some (.slice ao L.length c) ∧ w'.cell? ⟨q, 0, none⟩ = some (.int .i64 a.k) ∧ w'.cell? ⟨q, 1, none⟩ = some (.int .i64 a.n) ∧ w'.cell? ⟨q, 2, none⟩ = some (.string a.s)) X2 := ⟨c4, sfr_cell hf2 hqo hS4.2.1, sfr_cell hf2 hqo hS4.2.2.1, sfr_cell hf2 hqo hS4.2.2.2⟩
    have hfz : X2.frozen? ⟨p, 0, none⟩ = false := by
      have := (hf2.block p HT4.out.lt hpo).trans HT4.out.box
      simp [World.frozen?, this]
    obtain ⟨ao2, c2, rfl, _, _⟩ := hrow.shape
    refine hKa.out _ _ (fun _ => hS5) ?_
    clear hKa Ka
    try simp only [Act.put, List.setIfInBounds_toArray, List.set_cons_zero, List.set_cons_succ]
    refine wpAnyL_take (i := 9) 22 (v := .pointer (some ⟨p, 0, none⟩)) rfl rfl (by kernel_rfl) (by kernel_rfl) (by kernel_rfl) (by kernel_rfl) (by kernel_rfl) (by kernel_rfl) (fun _ _ _ h => h) hS5 (by rfl) (by intro w' hSw; obtain ⟨y0, y1, y2, y3⟩ := hSw; go_simp <;> with_reducible rfl) ?_
    simp only [Act.put, List.setIfInBounds_toArray, List.set_cons_zero, List.set_cons_succ]
    refine wpAnyL_take (i := 10) 23 (v := .pointer (some ⟨p, 0, none⟩)) rfl rfl (by kernel_rfl) (by kernel_rfl) (by kernel_rfl) (by kernel_rfl) (by kernel_rfl) (by kernel_rfl) (fun _ _ _ h => h) hS5 (by rfl) (by intro w' hSw; obtain ⟨y0, y1, y2, y3⟩ := hSw; go_simp <;> with_reducible rfl) ?_
    simp only [Act.put, List.setIfInBounds_toArray, List.set_cons_zero, List.set_cons_succ]
    refine wpAnyL_one (i := 11) (by kernel_rfl) rfl (fun Ka hKa => ?_)
    go_simp
    refine hKa.out _ _ (fun h => absurd h (Bool.eq_false_iff.1 (by kernel_rfl))) ?_
    clear hKa Ka
    refine wpAnyL_done (by kernel_rfl) ?_ _
    go_wp2
    go_end0
    refine ⟨rfl, ?_⟩
    rw [HPut.out]
    have hbx : X2.heap[p]? = some (.cells #[.slice ao L.length c] 234 (0, 0)) := (hf2.block p HT4.out.lt hpo).trans HT4.out.box
    have f4 : Fr w X2 (fun k => k = p ∨ (Value.slice ao L.length c).ownBlock = some k) := (Fr.ofBelow HXl.out _).trans hf2 (fun k _ e => .inr e)
    have f5 := Fr.setCell (S := fun k => k = p) X2 ⟨p, 0, none⟩ (.slice ao2 M.length c2) rfl
    have hrp : ∀ k, (Value.slice ao2 M.length c2).ownBlock = some k → ¬ k = p := fun k hk e => by
      subst e
      obtain ⟨_, cc, ff, ht⟩ := srow_tag hrow hk
      rw [hbx] at ht
      simp at ht
    refine ⟨_, ⟨sblk_set (i := 0) _ hbx, HT4.out.low, hrow.kept f5 hrp⟩, f4.trans f5 (fun k _ e => .inl e), ?_⟩
    rcases hrw with hrw | ⟨gg, hrw, hgg⟩
    · exact .inl hrw
    · exact .inr ⟨gg, hrw, Nat.le_trans HXl.out.size hgg⟩
end Go.Proofs.YthkfbaoeimjgaaaGreat
end

section
/- Look. -/
namespace Go.Proofs.YthkfbaoeimjgaaaGreat
open Go.RowKit
attribute [local go_sem] Oper.semAt_some
set_option maxRecDepth 100000 in
set_option maxHeartbeats 2000000 in
theorem slook {w : World} {B p : Nat} {v : Value} {L : List Req} (h : TA w B p v L) (hl : L.length ≤ 1000000) (hr : RiseQ L) (k n : Int) (hn : n ≤ 9223372036854775807) : Calls Tryz.prog 77 #[.pointer (some ⟨p, 0, none⟩), .int .i64 k, .int .i64 n] w fun r w' => r = .returned (.tuple #[.string (lookR L k n).1, .bool (lookR L k n).2.1, .int .i64 (lookR L k n).2.2]) ∧ Below w.heap.size w w' := by
  have HT : Hid (TA w B p v L) := h
  have HR : Hid (RiseQ L) := hr
  clear h hr
  by_cases h1 : n < 1
  · have e : lookR L k n = (str [], false, 1) := by unfold lookR; rw [if_pos h1]
    rw [e]
    clear e
    go_enter Tryz.func77, Tryz.ntmps77
    go_wp2
    go_ret3
    exact ⟨rfl, Below.refl _ _⟩
  · have hF := slast k HT.out hl HR.out
    obtain ⟨t, ht⟩ : ∃ t, lookR L k n = t := ⟨_, rfl⟩
    have HE : Hid (lookR L k n = t) := ht
    rw [ht]
    clear ht
    have h1' : 1 ≤ n := by omega
    go_enter Tryz.func77, Tryz.ntmps77
    go_upto_region 4 with (go_at_call 137; refine hF.mono ?_; rintro r w1 ⟨rfl, hb1⟩)
    generalize hW : World.alloc _ _ = W
    have hB : Below w1.heap.size w1 W := by rw [← hW]; exact sone_new _ _
    have hZ : W.heap[w1.heap.size]? = some (.cells #[.int .i64 (lastR L k).k, .int .i64 (lastR L k).n, .string (lastR L k).s] 230 (0, 0)) := by rw [← hW]; exact heap_alloc_new _ _
    have HB : Hid (Below w.heap.size w W) := hb1.trans (hB.mono hb1.size)
    have HT1 : Hid (TA W B p v L) := HT.out.new HB.out
    clear hW hF hb1 hB
    generalize w1.heap.size = q at hZ ⊢
    obtain ⟨z0, z1, z2, _, _, _⟩ := sbox3 hZ
    have c0 := HT1.out.c0
    obtain ⟨ao, c, rfl, _, _⟩ := HT1.out.row.shape
    have HV : Hid (lookR L k n = if n = (lastR L k).n then ((lastR L k).s, true, 0) else if n < (lastR L k).n then (str [], false, 150) else if (lastR L k).n < n - 1 then (str [], false, 151) else if (lastR L k).n = 0 ∧ 64 ≤ L.length then (str [], false, 3) else (str [], false, 0)) := by
      show _ = _
      conv => lhs; unfold lookR
      rw [if_neg (by omega)]
    generalize lastR L k = y at z0 z1 z2 HV
    clear hZ
    by_cases h2 : n = y.n
    · have HF : Hid (t = (y.s, true, 0)) := by show _ = _; rw [← HE.out, HV.out, if_pos h2]
      clear HV
      have h2' : (n == y.n) = true := by simpa using h2
      go_wp2
      go_ret3
      exact ⟨by rw [HF.out]; first | done | rfl, HB.out⟩
    · by_cases h3 : n < y.n
      · have HF : Hid (t = (str [], false, 150)) := by show _ = _; rw [← HE.out, HV.out, if_neg h2, if_pos h3]
        clear HV
        go_wp2
        go_ret3
        exact ⟨by rw [HF.out]; first | done | rfl, HB.out⟩
      · by_cases h4 : y.n < n - 1
        · have HF : Hid (t = (str [], false, 151)) := by show _ = _; rw [← HE.out, HV.out, if_neg h2, if_neg h3, if_pos h4]
          clear HV
          go_wp2
          go_ret3
          exact ⟨by rw [HF.out]; first | done | rfl, HB.out⟩
        · by_cases h5 : y.n = 0
          · by_cases h6 : 64 ≤ L.length
            · have HF : Hid (t = (str [], false, 3)) := by show _ = _; rw [← HE.out, HV.out, if_neg h2, if_neg h3, if_neg h4, if_pos ⟨h5, h6⟩]
              clear HV
              have h6' : (64 : Int) ≤ L.length := by omega
              go_wp2
              go_ret3
              exact ⟨by rw [HF.out]; first | done | rfl, HB.out⟩
            · have HF : Hid (t = (str [], false, 0)) := by show _ = _; rw [← HE.out, HV.out, if_neg h2, if_neg h3, if_neg h4, if_neg (fun h => h6 h.2)]
              clear HV
              have h6' : (L.length : Int) < 64 := by omega
              go_wp2
              go_ret3
              exact ⟨by rw [HF.out]; first | done | rfl, HB.out⟩
          · have HF : Hid (t = (str [], false, 0)) := by show _ = _; rw [← HE.out, HV.out, if_neg h2, if_neg h3, if_neg h4, if_neg (fun h => h5 h.1)]
            clear HV
            go_wp2
            go_ret3
            exact ⟨by rw [HF.out]; first | done | rfl, HB.out⟩
end Go.Proofs.YthkfbaoeimjgaaaGreat
end
