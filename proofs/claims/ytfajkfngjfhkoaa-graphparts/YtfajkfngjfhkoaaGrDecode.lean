/- What Decode returns, and what awake returns. -/
import Derived.Test.YtfajkfngjfhkoaaGrTake3
import Derived.Test.YtfajkfngjfhkoaaGrPut
import Derived.Test.YtfajkfngjfhkoaaGrSame
namespace Go.Proofs.Ytfajkfngjfhkoaa
open Go.RowKit
theorem rdGs_to {s : ByteArray} {a : Nat} {e : Int} (ha : a ≤ s.size) : (rdGs s a e).2.1 ≤ s.size ∧ (rdGs s a e).1.length ≤ 256 ∧ ∀ x ∈ (rdGs s a e).1, x.ok := by
  obtain ⟨⟨n, a1, e1⟩, h1⟩ : ∃ q, rdCount s a e (256 : Nat) = q := ⟨_, rfl⟩
  have g1 := rdCount_to ha h1
  have g2 := rdVs_to s n a1 e1 g1.1
  have hq : rdGs s a e = rdVs s n a1 e1 := by unfold rdGs; rw [show (256 : Int) = ((256 : Nat) : Int) from rfl, h1]
  rw [hq]
  exact ⟨g2.1, Nat.le_trans g2.2.1 g1.2.1, g2.2.2⟩
theorem rdG_to {s : ByteArray} {a : Nat} {e : Int} (ha : a ≤ s.size) : (rdG s a e).2.1 ≤ s.size ∧ (rdG s a e).1.length ≤ 256 ∧ ∀ x ∈ (rdG s a e).1, x.ok := by
  have g := rdGs_to (e := e) ha
  unfold rdG
  dsimp only
  split
  · split
    · exact g
    · exact ⟨g.1, Nat.zero_le _, fun x hx => by cases hx⟩
  · exact ⟨g.1, Nat.zero_le _, fun x hx => by cases hx⟩
/-- The graph of bytes, and the error. -/
def dec (s : ByteArray) : List Vx × Int := if rdEnd s (rdG s 0 0).2.1 (rdG s 0 0).2.2 = 0 then ((rdG s 0 0).1, 0) else ([], rdEnd s (rdG s 0 0).2.1 (rdG s 0 0).2.2)
theorem take_to {w : World} {p : Nat} {s : ByteArray} {a x : Nat} {e y : Int} {G : List Vx} (h : Rd w p s a e) (hs : s.size ≤ maxLen) (ha : a ≤ s.size) (hq : rdG s a e = (G, x, y)) :
    Calls Try.prog 41 #[.pointer (some ⟨p, 0, none⟩)] w fun r w' => ∃ ao cap, r = .returned (.agg #[.slice ao G.length cap]) ∧ VxAt w' (fun k => w.heap.size ≤ k) ao G ∧ Rd w' p s x y ∧ Fr w w' (fun k => k = p) := by
  have := take_any h hs ha; rw [hq] at this; exact this
theorem rend_to {w : World} {p : Nat} {s : ByteArray} {a : Nat} {e z : Int} (h : Rd w p s a e) (hs : s.size ≤ maxLen) (ha : a ≤ s.size) (hz : rdEnd s a e = z) :
    Calls Try.prog 42 #[.pointer (some ⟨p, 0, none⟩)] w fun r w' => r = .returned (.int .i64 z) ∧ Rd w' p s a z ∧ Fr w w' (fun k => k = p) := by
  have := rend_any h hs ha; rw [hz] at this; exact this
/-- Behind Decode's three calls. -/
theorem dec_facts {w w1 w2 w3 : World} {ao : Option Addr} {cap : Nat} {G : List Vx} (hb1 : Below (w.alloc (.cells #[.slice none 0 0] 24)).heap.size (w.alloc (.cells #[.slice none 0 0] 24)) w1) (hlt : w.heap.size + 1 < w1.heap.size) (hf2 : Fr w1 w2 (fun k => k = w.heap.size + 1))
    (hf3 : Fr (w2.alloc (.cells #[.slice ao G.length cap] 24)) w3 (fun k => k = w.heap.size + 1)) (hV2 : VxAt w2 (fun k => w1.heap.size ≤ k) ao G) :
    w3.cell? ⟨w2.heap.size, 0, none⟩ = some (.slice ao G.length cap) ∧ w3.cell? ⟨w.heap.size, 0, none⟩ = some (.slice none 0 0) ∧ w3.frozen? ⟨w.heap.size, 0, none⟩ = false ∧
    (∀ u, VxAt (w3.setCell ⟨w.heap.size, 0, none⟩ u) (fun k => w.heap.size ≤ k) ao G ∧ Below w.heap.size w (w3.setCell ⟨w.heap.size, 0, none⟩ u)) := by
  have h2 := hf2.size
  have c3 : w3.heap[w2.heap.size]? = some (.cells #[.slice ao G.length cap] 24 (0, 0)) := (hf3.block _ (by simp) (by omega)).trans (heap_alloc_new _ _)
  have r1 : w1.heap[w.heap.size]? = some (.cells #[.slice none 0 0] 24 (0, 0)) := (hb1.block _ (by simp)).trans (heap_alloc_new _ _)
  have r2 := (hf2.block _ (lt_of_block r1) (by omega)).trans r1
  have r3 : w3.heap[w.heap.size]? = some (.cells #[.slice none 0 0] 24 (0, 0)) := (hf3.block _ (by simp; omega) (by omega)).trans ((Below.heap_alloc _ _ _ (lt_of_block r2)).trans r2)
  refine ⟨cell_of_one c3, cell_of_one r3, free_of_one r3, fun u => ?_⟩
  have f23 : Fr w1 w3 (fun k => k = w.heap.size + 1) := (hf2.trans (Fr.alloc w2 _ (fun k => k = w.heap.size + 1)) (fun _ _ h => h)).trans hf3 (fun _ _ h => h)
  have f2' : Fr w2 w3 (fun k => k = w.heap.size + 1) := (Fr.alloc w2 _ (fun k => k = w.heap.size + 1)).trans hf3 (fun _ _ h => h)
  have fs : Fr w3 (w3.setCell ⟨w.heap.size, 0, none⟩ u) (fun k => k = w.heap.size) := Fr.setCell (S := fun k => k = w.heap.size) w3 ⟨w.heap.size, 0, none⟩ u rfl
  refine ⟨(hV2.kept f2' (Q := fun k => w1.heap.size ≤ k) (fun k _ hk => ⟨by omega, hk⟩)).kept fs (fun k _ hk => ⟨by omega, by omega⟩), ?_⟩
  have b1 : Below w.heap.size w w1 := alloc_then hb1
  exact (b1.trans (f23.below (B := w.heap.size) b1.size (fun k hk => by omega))).trans (fs.below (B := w.heap.size) (Nat.le_trans b1.size f23.size) (fun k hk => Nat.le_of_eq hk.symm))

set_option maxRecDepth 100000 in
set_option maxHeartbeats 400000 in
theorem decode_any (s : ByteArray) (w : World) (hs : s.size ≤ maxLen) :
    Calls Try.prog 9 #[.string s] w fun r w' => ∃ ao cap, r = .returned (.tuple #[.agg #[.slice ao (dec s).1.length cap], .int .i64 (dec s).2]) ∧ VxAt w' (fun k => w.heap.size ≤ k) ao (dec s).1 ∧ Below w.heap.size w w' := by
  obtain ⟨⟨G, x, y⟩, hq⟩ : ∃ q, rdG s 0 0 = q := ⟨_, rfl⟩
  have g := rdG_to (s := s) (a := 0) (e := 0) (Nat.zero_le _)
  rw [hq] at g
  obtain ⟨z, hz⟩ : ∃ z, rdEnd s x y = z := ⟨_, rfl⟩
  have HQ : Hid _ := hq
  have HZ : Hid _ := hz
  have GG : Hid _ := g
  have HD : Hid (dec s = if z = 0 then (G, 0) else ([], z)) := by show _ = _; unfold dec; rw [hq]; dsimp only; rw [hz]
  clear hq hz g
  by_cases h0 : z = 0
  · have HE : Hid (dec s = (G, 0)) := HD.out.trans (if_pos h0)
    subst h0
    go_enter Try.func9, Try.ntmps9
    go_wp2_with (first
      | (go_at_call 40; refine (newreader_any s _).mono ?_; rintro r w1 ⟨rfl, hr1, hb1⟩; rw [World.size_alloc] at hr1; have hl1 := hr1.lt)
      | (go_at_call 41; refine (take_to hr1 hs (Nat.zero_le _) HQ.out).mono ?_; rintro r w2 ⟨ao, cap, rfl, hV2, hr2, hf2⟩)
      | (go_at_call 42; refine (rend_to (hr2.kept (Fr.alloc w2 _ (fun _ => False)) (fun h => h)) hs GG.out.1 HZ.out).mono ?_; rintro r w3 ⟨rfl, hr3, hf3⟩; obtain ⟨c1, c2, c3, c4⟩ := dec_facts hb1 hl1 hf2 hf3 hV2; have HC : Hid _ := c4; clear c4))
    obtain ⟨d1, d2⟩ := HC.out (.slice ao G.length cap)
    refine bodyPost_ret (v := .tuple #[.agg #[.slice ao G.length cap], .int .i64 0]) (by simp [results, Try.results9, go_sem, c2]) rfl ?_
    rw [HE.out]
    exact ⟨ao, cap, rfl, d1, d2⟩
  · have HE : Hid (dec s = ([], z)) := HD.out.trans (if_neg h0)
    have hz0 : (z == 0) = false := by rw [beq_eq_false_iff_ne]; exact h0
    go_enter Try.func9, Try.ntmps9
    go_wp2_with (first
      | (go_at_call 40; refine (newreader_any s _).mono ?_; rintro r w1 ⟨rfl, hr1, hb1⟩; rw [World.size_alloc] at hr1; have hl1 := hr1.lt)
      | (go_at_call 41; refine (take_to hr1 hs (Nat.zero_le _) HQ.out).mono ?_; rintro r w2 ⟨ao, cap, rfl, hV2, hr2, hf2⟩)
      | (go_at_call 42; refine (rend_to (hr2.kept (Fr.alloc w2 _ (fun _ => False)) (fun h => h)) hs GG.out.1 HZ.out).mono ?_; rintro r w3 ⟨rfl, hr3, hf3⟩; obtain ⟨c1, c2, c3, c4⟩ := dec_facts hb1 hl1 hf2 hf3 hV2; have HC : Hid _ := c4; clear c4))
    obtain ⟨d1, d2⟩ := HC.out (.slice none 0 0)
    refine bodyPost_ret (v := .tuple #[.agg #[.slice none 0 0], .int .i64 z]) (by simp [results, Try.results9, go_sem, c2]) rfl ?_
    rw [HE.out]
    exact ⟨none, 0, rfl, fun h => absurd h (by simp), d2⟩
end Go.Proofs.Ytfajkfngjfhkoaa
