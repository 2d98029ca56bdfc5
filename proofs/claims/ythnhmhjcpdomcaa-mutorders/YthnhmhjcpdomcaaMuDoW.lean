/- mut.do: one request on a graph of one's own. -/
import Derived.Test.YthnhmhjcpdomcaaMuEdge
namespace Go.Proofs.Ythnhmhjcpdomcaa
open Go.RowKit
theorem gw_slice {w : World} {base : Nat} {sv : Value} {A B : List (Vx × Value)} {x : Vx × Value} (h : GW w base sv (A ++ x :: B)) : ∃ rb cap, sv = .slice (some ⟨rb, 0, none⟩) (A ++ x :: B).length cap ∧ base ≤ rb ∧ rb < w.heap.size ∧ x.2.ownBlock ≠ some rb ∧ w.cell? ⟨rb, A.length * 3 + 2, none⟩ = some x.2 ∧ w.frozen? ⟨rb, A.length * 3 + 2, none⟩ = false := by
  rcases h.row.2 with ⟨h1, h2⟩ | ⟨g, cap, cur, h1, hb, hg, hn, hc, hcs, ht⟩
  · rw [List.length_append, List.length_cons] at h2; omega
  · have ha := gcs_at A B x
    have hcell := h.row.cells (g := g) (by rw [h1]; rfl) _ _ ha.2.2
    rw [Addr.add_lit, Nat.zero_add] at hcell
    refine ⟨g, cap, h1, hb, (Array.getElem?_eq_some_iff.1 hg).1, fun e => own_diff h.row (h.eds x (by simp)) (by decide) g e (by rw [h1]; rfl), hcell, ?_⟩
    simp [World.frozen?, hg]
/-- A block of vertices or of edges. -/
def GT (w : World) (base k : Nat) : Prop := base ≤ k ∧ ∃ cur t f, w.heap[k]? = some (.cells cur t f) ∧ (t = 84 ∨ t = 81)
theorem own_gtV {w : World} {base n k : Nat} {v : Value} {xs : List Value} (h : w.ownsRow base 84 3 v n xs) (hk : v.ownBlock = some k) : GT w base k := by
  rcases h.2 with ⟨rfl, _⟩ | ⟨g, cap, cur, rfl, hb, hg, _⟩
  · cases hk
  · cases hk
    exact ⟨hb, _, _, _, hg, .inl rfl⟩
theorem own_gtE {w : World} {base n k : Nat} {v : Value} {xs : List Value} (h : w.ownsRow base 81 2 v n xs) (hk : v.ownBlock = some k) : GT w base k := by
  rcases h.2 with ⟨rfl, _⟩ | ⟨g, cap, cur, rfl, hb, hg, _⟩
  · cases hk
  · cases hk
    exact ⟨hb, _, _, _, hg, .inr rfl⟩
theorem map_mid (A B : List (Vx × Value)) (x : Vx × Value) : (A ++ x :: B).map (·.1) = A.map (·.1) ++ x.1 :: B.map (·.1) := by simp
set_option maxRecDepth 100000 in
set_option maxHeartbeats 400000 in
theorem do2_no {w : World} {base bg : Nat} {sv : Value} {L : List (Vx × Value)} {m : Mu} (hg : w.heap[bg]? = some (.cells #[sv] 24 (0, 0))) (h : GW w base sv L) (hbg : bg < base) (hbase : base ≤ w.heap.size) (hf : Fine (L.map (·.1))) (hl : L.length ≤ 1073741824) (hk : m.k = 2) (hfo : foundB (ids (L.map (·.1))) m.i = false) :
    Calls Try.prog 46 #[.pointer (some ⟨bg, 0, none⟩), .agg #[.int .i64 m.k, .int .i64 m.i, .int .i64 m.t, .int .i64 m.v]] w fun e w' => e = .returned (.bool false) ∧ Below w.heap.size w w' := by
  rw [hk]
  obtain ⟨ao, cap, rfl, hV⟩ := h.at_
  obtain ⟨W0, hW0⟩ : ∃ W0, w.alloc (.cells #[.int .i64 2, .int .i64 m.i, .int .i64 m.t, .int .i64 m.v] 38) = W0 := ⟨_, rfl⟩
  have hb0 : Below w.heap.size w W0 := by rw [← hW0]; exact one_new _ _
  have hs0 : W0.heap.size = w.heap.size + 1 := by rw [← hW0, World.size_alloc]
  have hq0 : W0.heap[w.heap.size]? = some (.cells #[.int .i64 2, .int .i64 m.i, .int .i64 m.t, .int .i64 m.v] 38 (0, 0)) := by rw [← hW0]; exact heap_alloc_new _ _
  have hg0 : W0.heap[bg]? = some (.cells #[.slice ao L.length cap] 24 (0, 0)) := (hb0.block _ (by omega)).trans hg
  have hlm : (L.map (·.1)).length = L.length := List.length_map _
  have HF := fun W (hb : Below W0.heap.size W0 W) => findW_any (w := W) cap m.i ((hV.new hb0).new hb) (by rw [hlm]; exact hl) (rise_pw.2 hf.ids)
  rw [hlm, hfo] at HF
  generalize findN (ids (L.map (·.1))) m.i = p at HF
  have x0 : W0.cell? ⟨bg, 0, none⟩ = some (.slice ao L.length cap) ∧ W0.cell? ⟨w.heap.size, 1, none⟩ = some (.int .i64 m.i) := by constructor <;> simp [World.cell?, hg0, hq0]
  have HQ : Hid _ := hq0
  have HG : Hid _ := hg0
  have HBg : Hid (bg < w.heap.size) := Nat.lt_of_lt_of_le hbg hbase
  clear hq0 hg0 hV hfo h hf hg hbg hbase hlm hl
  go_enter Try.func46, Try.ntmps46
  go_upto_region 1 with (fail)
  go_region_held (fun w' => w'.cell? ⟨bg, 0, none⟩ = some (.slice ao L.length cap) ∧ w'.cell? ⟨w.heap.size, 1, none⟩ = some (.int .i64 m.i)) (first | exact x1 | exact x0)
    (first | (go_at_call 71; refine (HF _ ((Below.refl _ _).drew)).mono ?_; rintro e w1 ⟨rfl, hb⟩; have x1 := two_kept hb x0))
  have HB : Hid (Below w.heap.size w w1) := hb0.trans (((Below.refl _ _).drew).trans hb |>.mono hb0.size)
  have hd0 : W0.drew.heap.size = W0.heap.size := rfl
  have hs1 : w.heap.size + 1 ≤ w1.heap.size := by have := hb.size; omega
  have hq1 : w1.heap[w.heap.size]? = some (.cells #[.int .i64 2, .int .i64 m.i, .int .i64 m.t, .int .i64 m.v] 38 (0, 0)) := (hb.block _ (by omega)).trans HQ.out
  have hg1 : w1.heap[bg]? = some (.cells #[.slice ao L.length cap] 24 (0, 0)) := (hb.block _ (by have := HBg.out; omega)).trans HG.out
  obtain ⟨k0, k1, k2, k3⟩ : w1.cell? ⟨w.heap.size, 0, none⟩ = some (.int .i64 2) ∧ w1.cell? ⟨w.heap.size, 1, none⟩ = some (.int .i64 m.i) ∧ w1.cell? ⟨w.heap.size, 2, none⟩ = some (.int .i64 m.t) ∧ w1.cell? ⟨w.heap.size, 3, none⟩ = some (.int .i64 m.v) := by refine ⟨?_, ?_, ?_, ?_⟩ <;> simp [World.cell?, hq1]
  clear hd0 hq1 hb HF hb0 hW0 hs0 x0 x1
  clear hg1 k1 k2 k3
  go_wp2
  go_ret
  exact ⟨rfl, HB.out⟩
set_option maxRecDepth 100000 in
set_option maxHeartbeats 400000 in
theorem do3_no {w : World} {base bg : Nat} {sv : Value} {L : List (Vx × Value)} {m : Mu} (hg : w.heap[bg]? = some (.cells #[sv] 24 (0, 0))) (h : GW w base sv L) (hbg : bg < base) (hbase : base ≤ w.heap.size) (hf : Fine (L.map (·.1))) (hl : L.length ≤ 1073741824) (hk : m.k = 3) (hfo : foundB (ids (L.map (·.1))) m.i = true) :
    Calls Try.prog 46 #[.pointer (some ⟨bg, 0, none⟩), .agg #[.int .i64 m.k, .int .i64 m.i, .int .i64 m.t, .int .i64 m.v]] w fun e w' => e = .returned (.bool false) ∧ Below w.heap.size w w' := by
  rw [hk]
  obtain ⟨ao, cap, rfl, hV⟩ := h.at_
  obtain ⟨W0, hW0⟩ : ∃ W0, w.alloc (.cells #[.int .i64 3, .int .i64 m.i, .int .i64 m.t, .int .i64 m.v] 38) = W0 := ⟨_, rfl⟩
  have hb0 : Below w.heap.size w W0 := by rw [← hW0]; exact one_new _ _
  have hs0 : W0.heap.size = w.heap.size + 1 := by rw [← hW0, World.size_alloc]
  have hq0 : W0.heap[w.heap.size]? = some (.cells #[.int .i64 3, .int .i64 m.i, .int .i64 m.t, .int .i64 m.v] 38 (0, 0)) := by rw [← hW0]; exact heap_alloc_new _ _
  have hg0 : W0.heap[bg]? = some (.cells #[.slice ao L.length cap] 24 (0, 0)) := (hb0.block _ (by omega)).trans hg
  have hlm : (L.map (·.1)).length = L.length := List.length_map _
  have HF := fun W (hb : Below W0.heap.size W0 W) => findW_any (w := W) cap m.i ((hV.new hb0).new hb) (by rw [hlm]; exact hl) (rise_pw.2 hf.ids)
  rw [hlm, hfo] at HF
  generalize findN (ids (L.map (·.1))) m.i = p at HF
  have x0 : W0.cell? ⟨bg, 0, none⟩ = some (.slice ao L.length cap) ∧ W0.cell? ⟨w.heap.size, 1, none⟩ = some (.int .i64 m.i) := by constructor <;> simp [World.cell?, hg0, hq0]
  have HQ : Hid _ := hq0
  have HG : Hid _ := hg0
  have HBg : Hid (bg < w.heap.size) := Nat.lt_of_lt_of_le hbg hbase
  clear hq0 hg0 hV hfo h hf hg hbg hbase hlm hl
  go_enter Try.func46, Try.ntmps46
  go_upto_region 1 with (fail)
  go_region_held (fun w' => w'.cell? ⟨bg, 0, none⟩ = some (.slice ao L.length cap) ∧ w'.cell? ⟨w.heap.size, 1, none⟩ = some (.int .i64 m.i)) (first | exact x1 | exact x0)
    (first | (go_at_call 71; refine (HF _ ((Below.refl _ _).drew)).mono ?_; rintro e w1 ⟨rfl, hb⟩; have x1 := two_kept hb x0))
  have HB : Hid (Below w.heap.size w w1) := hb0.trans (((Below.refl _ _).drew).trans hb |>.mono hb0.size)
  have hd0 : W0.drew.heap.size = W0.heap.size := rfl
  have hs1 : w.heap.size + 1 ≤ w1.heap.size := by have := hb.size; omega
  have hq1 : w1.heap[w.heap.size]? = some (.cells #[.int .i64 3, .int .i64 m.i, .int .i64 m.t, .int .i64 m.v] 38 (0, 0)) := (hb.block _ (by omega)).trans HQ.out
  have hg1 : w1.heap[bg]? = some (.cells #[.slice ao L.length cap] 24 (0, 0)) := (hb.block _ (by have := HBg.out; omega)).trans HG.out
  obtain ⟨k0, k1, k2, k3⟩ : w1.cell? ⟨w.heap.size, 0, none⟩ = some (.int .i64 3) ∧ w1.cell? ⟨w.heap.size, 1, none⟩ = some (.int .i64 m.i) ∧ w1.cell? ⟨w.heap.size, 2, none⟩ = some (.int .i64 m.t) ∧ w1.cell? ⟨w.heap.size, 3, none⟩ = some (.int .i64 m.v) := by refine ⟨?_, ?_, ?_, ?_⟩ <;> simp [World.cell?, hq1]
  clear hd0 hq1 hb HF hb0 hW0 hs0 x0 x1
  clear hg1 k1 k2 k3
  go_wp2
  go_ret
  exact ⟨rfl, HB.out⟩
end Go.Proofs.Ythnhmhjcpdomcaa
