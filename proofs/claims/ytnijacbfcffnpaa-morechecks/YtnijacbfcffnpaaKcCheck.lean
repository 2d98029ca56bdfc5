/- kern.Check, and the document's at the programs of this layer. -/
import Derived.Test.YtnijacbfcffnpaaKcRef
namespace Go.Proofs.Ytnijacbfcffnpaa
open Go.RowKit
section
variable {w : World} {P : Nat → Prop} {ao po : Option Addr} {s : ByteArray} {G : List Vx} {L : List Int} {n cap pn pc : Nat}
theorem below0_n (hn : n = G.length) (h : VxAt w P ao G) (hok : ∀ v ∈ G, v.ok) (hl : G.length ≤ 256) :
    Calls Try.prog 58 #[.agg #[.slice ao n cap]] w fun r w' => r = .returned (.bool (negE G)) ∧ Below w.heap.size w w' := by
  subst hn
  exact below0_any cap h hok hl
set_option maxRecDepth 100000 in
set_option maxHeartbeats 2000000 in
theorem kcheck_any (hn : n = G.length) (hp : pn = L.length) (hG : VxAt w P ao G) (hok : ∀ v ∈ G, v.ok) (hL : IsAt w po L) (hl : G.length ≤ 256) (hr : Rise (ids G)) :
    Calls Try.prog 35 #[.string s, .agg #[.slice ao n cap], .slice po pn pc] w fun r w' => r = .returned (.int .i64 (checkN s G L)) ∧ Below w.heap.size w w' := by
  obtain ⟨W0, hW0⟩ : ∃ W0, w.alloc (.cells #[.slice ao n cap] 24) = W0 := ⟨_, rfl⟩
  have hB0 : Below w.heap.size w W0 := by rw [← hW0]; exact (Below.refl _ _).alloc (Nat.le_refl _) _
  have hcg : W0.cell? ⟨w.heap.size, 0, none⟩ = some (.slice ao n cap) := by
    have hh : W0.heap[w.heap.size]? = some (.cells #[.slice ao n cap] 24 (0, 0)) := by rw [← hW0]; exact heap_alloc_new _ _
    simp [World.cell?, hh]
  have HS : Hid (∀ W, Below W0.heap.size W0 W → Calls Try.prog 57 #[.agg #[.slice ao n cap], .slice po pn pc] W fun r w' => r = .returned (.int .i64 (srcN G L)) ∧ Below W.heap.size W w') := fun W hb => source_any G L n cap pn pc hn hp (kc_new (kc_new hG hB0) hb) ((hL.new hB0).new hb) hl hr
  have HN : Hid (Calls Try.prog 58 #[.agg #[.slice ao n cap]] W0 fun r w' => r = .returned (.bool (negE G)) ∧ Below W0.heap.size W0 w') := below0_n hn (kc_new hG hB0) hok hl
  have HT : Hid (Calls Try.prog 32 #[.slice po pn pc] W0 fun r w' => r = .returned (.int .i64 (turnN L)) ∧ w' = W0) := turns_any L pn pc W0 hp (hL.new hB0)
  have HO : Hid (Calls Try.prog 34 #[.slice po pn pc] W0 fun r w' => r = .returned (.int .i64 (noneN L)) ∧ w' = W0) := none_any L pn pc W0 hp
  have HB0 : Hid _ := hB0
  clear hn hp hG hok hL hl hr hB0
  unfold checkN isBfs isSp isPr isCc isDeg
  cases h1 : (s.toList == [98, 102, 115])
  · cases h5 : (s.toList == [115, 115, 115, 112])
    · cases h4 : (s.toList == [112, 97, 103, 101, 114, 97, 110, 107])
      · cases h2 : (s.toList == [99, 99])
        · cases h3 : (s.toList == [100, 101, 103, 114, 101, 101])
          · go_enter Try.func35, Try.ntmps35
            go_wp2
            go_ret
            exact ⟨rfl, HB0.out⟩
          · simp only [Bool.false_eq_true, if_false, Bool.false_or, if_true]
            generalize noneN L = R at HO
            go_enter Try.func35, Try.ntmps35
            go_wp2_with (go_at_call 34; refine HO.out.mono ?_; rintro r w1 ⟨rfl, rfl⟩)
            go_ret
            exact ⟨rfl, HB0.out⟩
        · simp only [Bool.false_eq_true, if_false, Bool.true_or, if_true]
          generalize noneN L = R at HO
          go_enter Try.func35, Try.ntmps35
          go_wp2_with (go_at_call 34; refine HO.out.mono ?_; rintro r w1 ⟨rfl, rfl⟩)
          go_ret
          exact ⟨rfl, HB0.out⟩
      · simp only [Bool.false_eq_true, if_false, if_true]
        generalize turnN L = R at HT
        go_enter Try.func35, Try.ntmps35
        go_wp2_with (go_at_call 32; refine HT.out.mono ?_; rintro r w1 ⟨rfl, rfl⟩)
        go_ret
        exact ⟨rfl, HB0.out⟩
    · simp only [Bool.false_eq_true, if_false, if_true]
      generalize srcN G L = R at HS
      cases hng : negE G
      · rw [hng] at HN
        simp only [Bool.false_eq_true, if_false]
        go_enter Try.func35, Try.ntmps35
        go_wp2_with (first
          | (go_at_call 58; refine HN.out.mono ?_; rintro r w1 ⟨rfl, hb1⟩; have c1 := (hb1.cell (p := ⟨w.heap.size, 0, none⟩) (lt_cell hcg)).trans hcg; have HB1 : Hid _ := hb1; clear hb1)
          | (go_at_call 57; refine (HS.out _ HB1.out).mono ?_; rintro r w2 ⟨rfl, hb2⟩; have HB2 : Hid _ := HB1.out.trans (hb2.mono HB1.out.size); clear hb2))
        go_ret
        exact ⟨rfl, HB0.out.trans (HB2.out.mono HB0.out.size)⟩
      · rw [hng] at HN
        simp only [if_true]
        go_enter Try.func35, Try.ntmps35
        go_wp2_with (go_at_call 58; refine HN.out.mono ?_; rintro r w1 ⟨rfl, hb1⟩; have HB1 : Hid _ := hb1; clear hb1)
        go_ret
        exact ⟨rfl, HB0.out.trans (HB1.out.mono HB0.out.size)⟩
  · simp only [if_true]
    generalize srcN G L = R at HS
    go_enter Try.func35, Try.ntmps35
    go_wp2_with (go_at_call 57; refine (HS.out _ (Below.refl _ _)).mono ?_; rintro r w2 ⟨rfl, hb2⟩; have HB2 : Hid _ := hb2; clear hb2)
    go_ret
    exact ⟨rfl, HB0.out.trans (HB2.out.mono HB0.out.size)⟩
/-- The document's Check is the same there. -/
theorem rcheck_any (hs : ownS s = true) (hn : n = G.length) (hp : pn = L.length) (hG : VxAt w P ao G) (hok : ∀ v ∈ G, v.ok) (hL : IsAt w po L) (hl : G.length ≤ 256) :
    Calls Try.prog 15 #[.string s, .slice ao n cap, .slice po pn pc] w fun r w' => r = .returned (.int .i64 (checkN s G L)) ∧ Below w.heap.size w w' := by
  unfold checkN
  cases h1 : isBfs s
  · cases h5 : isSp s
    · cases h4 : isPr s
      · have hcd : (isCc s || isDeg s) = true := by
          unfold ownS at hs
          rw [h1, h5, h4] at hs
          simpa using hs
        simp only [Bool.false_eq_true, if_false, hcd, if_true]
        rcases Bool.or_eq_true_iff.1 hcd with hc | hc
        · have e : s.toList = [99, 99] := eq_of_beq hc
          exact rcheck_none h1 h5 h4 (by rw [e]; rfl) (by rw [e]; rfl) ⟨⟨#[99, 99]⟩, by simp [kNm], by rw [e]; kernel_rfl⟩ hp
        · have e : s.toList = [100, 101, 103, 114, 101, 101] := eq_of_beq hc
          exact rcheck_none h1 h5 h4 (by rw [e]; rfl) (by rw [e]; rfl) ⟨⟨#[100, 101, 103, 114, 101, 101]⟩, by simp [kNm], by rw [e]; kernel_rfl⟩ hp
      · simp only [Bool.false_eq_true, if_false, if_true]
        exact rcheck_pr h4 hp hL
    · simp only [Bool.false_eq_true, if_false, if_true]
      exact rcheck_sp h5 hn hp hG hok hL hl
  · simp only [if_true]
    exact rcheck_bfs h1 hn hp hG hL hl
theorem check_none (hs : ownS s = false) : checkN s G L = 70 := by
  unfold ownS at hs
  simp only [Bool.or_eq_false_iff] at hs
  obtain ⟨⟨⟨⟨h1, h2⟩, h3⟩, h4⟩, h5⟩ := hs
  unfold checkN
  rw [h1, h5, h4, h2, h3]
  rfl
end
end Go.Proofs.Ytnijacbfcffnpaa
