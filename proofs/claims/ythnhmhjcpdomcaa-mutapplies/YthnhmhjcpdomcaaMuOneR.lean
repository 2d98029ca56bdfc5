/- The regions of the document's one that draw their orders. -/
import Derived.Test.YthnhmhjcpdomcaaRegApp
import Derived.Test.YthnhmhjcpdomcaaGrRef
namespace Go.Proofs.Ythnhmhjcpdomcaa
open Go.RowKit Go.Sort
structure Jone_r5 (W0 : World) (go : Option Addr) (gn gc at_ bm : Nat) (m : Mu) (s1 s2 : List Value) (on : Nat → Prop) (X : Nat → Value) (W : World) (rv : Value) (RN : Nat) (RX : List Value) (hh : Nat) : Prop where
  low : Below W0.heap.size W0 W
  x24 : on 0 → ¬ on 4 → X 24 = rv
  n24 : on 0 → ¬ on 4 → RN = 0
  l24 : on 0 → ¬ on 4 → RX = []
  x28 : on 4 → ¬ on 11 → X 28 = rv
  n28 : on 4 → ¬ on 11 → RN = 0 + at_
  l28 : on 4 → ¬ on 11 → RX = [] ++ s1
  x35 : on 11 → ¬ on 15 → X 35 = rv
  n35 : on 11 → ¬ on 15 → RN = 0 + at_ + 1
  l35 : on 11 → ¬ on 15 → RX = [] ++ s1 ++ [.int .i64 m.i, .int .i64 m.v, .slice none 0 0]
  x39 : on 15 → X 39 = rv
  n39 : on 15 → RN = 0 + at_ + 1 + (gn - at_)
  l39 : on 15 → RX = [] ++ s1 ++ [.int .i64 m.i, .int .i64 m.v, .slice none 0 0] ++ s2
  row : on 0 → W.ownsRow W0.heap.size 70 3 rv RN RX
  sm : on 0 → rv.ownBlock ≠ none
  x25 : on 1 → X 25 = .slice go gn gc
  x26 : on 2 → X 26 = .int .i64 at_
  x27 : on 3 → X 27 = .slice go at_ gc
  x29 : on 5 → X 29 = .pointer (some ⟨bm, 1, none⟩)
  x30 : on 6 → X 30 = .int .i64 m.i
  x31 : on 7 → X 31 = .pointer (some ⟨bm, 3, none⟩)
  x32 : on 8 → X 32 = .int .i64 m.v
  x33 : on 9 → X 33 = .agg #[.int .i64 m.i, .int .i64 m.v, .slice none 0 0]
  x34 : on 10 → X 34 = .slice (some ⟨hh, 0, none⟩) 1 1
  new : on 10 → W.heap[hh]? = some (.cells #[.int .i64 m.i, .int .i64 m.v, .slice none 0 0] 70 (0, 0))
  dn : on 0 → on 10 → rv.ownBlock ≠ some hh
  x36 : on 12 → X 36 = .slice go gn gc
  x37 : on 13 → X 37 = .int .i64 at_
  x38 : on 14 → X 38 = .slice (subA 3 go gc at_) (gn - at_) (gc - at_)
  x4 : on 16 → X 4 = rv
  x5 : on 17 → X 5 = .bool true
  c4 : on 4 → on 0
  c11 : on 11 → on 4
  c15 : on 15 → on 11
  c16 : on 16 → on 15
set_option maxRecDepth 100000 in
set_option maxHeartbeats 4000000 in
theorem one_r5 {W0 : World} {A : Act} {go : Option Addr} {gn gc at_ bm : Nat} {m : Mu} {s1 s2 : List Value} {K : Act → World → Prop} {Q' : Exit → Act → World → Prop} (hsz : A.tmps.size = 122)
    (hA0 : A.eval (.tmp 0) = .slice go gn gc) (hA3 : A.eval (.tmp 3) = .pointer (some ⟨bm, 0, none⟩)) (hA6 : A.eval (.tmp 6) = .int .i64 at_) (hgo : (go = none ∧ gn = 0 ∧ gc = 0 ∧ at_ = 0) ∨ ∃ gb, go = some ⟨gb, 0, none⟩) (hat : at_ ≤ gn) (hgc : gn ≤ gc) (hgn : gn ≤ 1000000) (HC1 : ∀ W, Below W0.heap.size W0 W → W.cell? ⟨bm, 1, none⟩ = some (.int .i64 m.i)) (HC3 : ∀ W, Below W0.heap.size W0 W → W.cell? ⟨bm, 3, none⟩ = some (.int .i64 m.v)) (hl1 : s1.length = (at_) * 3) (HS1 : ∀ W, Below W0.heap.size W0 W → SrcF W (go) (at_) s1) (ho1 : ∀ u ∈ s1, u.oneCell' = true) (hl2 : s2.length = (gn - at_) * 3) (HS2 : ∀ W, Below W0.heap.size W0 W → SrcF W (subA 3 go gc at_) (gn - at_) s2) (ho2 : ∀ u ∈ s2, u.oneCell' = true)
    (HK : ∀ X W rv, X 4 = rv → X 5 = .bool true → W.ownsRow W0.heap.size 70 3 rv (0 + at_ + 1 + (gn - at_)) ([] ++ s1 ++ [.int .i64 m.i, .int .i64 m.v, .slice none 0 0] ++ s2) → rv.ownBlock ≠ none → Below W0.heap.size W0 W → K (puts A X [4, 5, 24, 25, 26, 27, 28, 29, 30, 31, 32, 33, 34, 35, 36, 37, 38, 39]) W) :
    Code.wp Try.prog ((Try.f47.body.bind (regionJ 5)).getD .skip) (Exit.then K Q') A W0 := by
  obtain ⟨i0, hi, hz0, hz1, hz2⟩ := info_parts infoRVx
  have hin : ∀ {X : Nat → Value} {k : Nat}, k ∈ [4, 5, 24, 25, 26, 27, 28, 29, 30, 31, 32, 33, 34, 35, 36, 37, 38, 39] → (puts A X [4, 5, 24, 25, 26, 27, 28, 29, 30, 31, 32, 33, 34, 35, 36, 37, 38, 39]).eval (.tmp k) = X k := fun hk => eval_in hk (by
    rw [hsz]; revert hk; simp only [List.mem_cons, List.not_mem_nil, or_false]; omega)
  have hout : ∀ {X : Nat → Value} {k : Nat}, k ∉ [4, 5, 24, 25, 26, 27, 28, 29, 30, 31, 32, 33, 34, 35, 36, 37, 38, 39] → (puts A X [4, 5, 24, 25, 26, 27, 28, 29, 30, 31, 32, 33, 34, 35, 36, 37, 38, 39]).eval (.tmp k) = A.eval (.tmp k) := fun hk => eval_out hk
  generalize hds : [4, 5, 24, 25, 26, 27, 28, 29, 30, 31, 32, 33, 34, 35, 36, 37, 38, 39] = ds at *
  conv => arg 2; whnf
  refine wp_region_J ds (fun on X W => ∃ rv RN RX hh, Jone_r5 W0 go gn gc at_ bm m s1 s2 on X W rv RN RX hh) (by kernel_rfl) (by kernel_rfl) ?start ?steps ?done
  case start =>
    refine ⟨.bool false, 0, [], 0, ?_⟩
    constructor
    · exact ⟨rfl, rfl, rfl, Nat.le_refl _, fun _ _ => rfl⟩
    all_goals first | exact fun h => h.elim
  case done =>
    rintro on X W ⟨rv, RN, RX, hh, hJ⟩ hall
    have hrow := hJ.row (hall 0 (by decide))
    rw [hJ.n39 (hall 15 (by decide)), hJ.l39 (hall 15 (by decide))] at hrow
    exact HK X W rv (hJ.x4 (hall 16 (by decide))) (hJ.x5 (hall 17 (by decide))) hrow (hJ.sm (hall 0 (by decide))) hJ.low
  case steps =>
    refine ⟨?_, ?_, ?_, ?_, ?_, ?_, ?_, ?_, ?_, ?_, ?_, ?_, ?_, ?_, ?_, ?_, ?_, ?_, trivial⟩
    · rintro on X W ⟨rv, RN, RX, hh, hJ⟩ hn hd
      have hb : Below W.heap.size W (W.alloc (.cells #[] 70)) := one_newU _ _
      refine op_value (v := .slice (some ⟨W.heap.size, 0, none⟩) 0 0) (w' := W.alloc (.cells #[] 70)) ?_ ?_
      · generalize (puts A X ds).eval = ρ
        go_simp
      · exact ⟨upd X 24 (.slice (some ⟨W.heap.size, 0, none⟩) 0 0), puts_put _ (by rw [← hds]; decide), ⟨.slice (some ⟨W.heap.size, 0, none⟩) 0 0, 0, [], hh, ⟨hJ.low.trans (hb.mono hJ.low.size), fun _ _ => rfl, fun _ _ => rfl, fun _ _ => rfl, fun h _ => absurd (hJ.c4 (h.resolve_left (by decide))) hn, fun h _ => absurd (hJ.c4 (h.resolve_left (by decide))) hn, fun h _ => absurd (hJ.c4 (h.resolve_left (by decide))) hn, fun h _ => absurd (hJ.c4 (hJ.c11 (h.resolve_left (by decide)))) hn, fun h _ => absurd (hJ.c4 (hJ.c11 (h.resolve_left (by decide)))) hn, fun h _ => absurd (hJ.c4 (hJ.c11 (h.resolve_left (by decide)))) hn, fun h => absurd (hJ.c4 (hJ.c11 (hJ.c15 (h.resolve_left (by decide))))) hn, fun h => absurd (hJ.c4 (hJ.c11 (hJ.c15 (h.resolve_left (by decide))))) hn, fun h => absurd (hJ.c4 (hJ.c11 (hJ.c15 (h.resolve_left (by decide))))) hn, fun _ => own_empty hJ.low.size, fun _ e0 => (by cases e0), fun h => hJ.x25 (h.resolve_left (by decide)), fun h => hJ.x26 (h.resolve_left (by decide)), fun h => hJ.x27 (h.resolve_left (by decide)), fun h => hJ.x29 (h.resolve_left (by decide)), fun h => hJ.x30 (h.resolve_left (by decide)), fun h => hJ.x31 (h.resolve_left (by decide)), fun h => hJ.x32 (h.resolve_left (by decide)), fun h => hJ.x33 (h.resolve_left (by decide)), fun h => hJ.x34 (h.resolve_left (by decide)), fun h => (hb.block _ (lt_of_block (hJ.new (h.resolve_left (by decide))))).trans (hJ.new (h.resolve_left (by decide))), fun _ h e0 => by have := lt_of_block (hJ.new (h.resolve_left (by decide))); have h9 : W.heap.size = hh := Option.some.inj e0; omega, fun h => hJ.x36 (h.resolve_left (by decide)), fun h => hJ.x37 (h.resolve_left (by decide)), fun h => hJ.x38 (h.resolve_left (by decide)), fun h => absurd (hJ.c4 (hJ.c11 (hJ.c15 (hJ.c16 (h.resolve_left (by decide)))))) hn, fun h => hJ.x5 (h.resolve_left (by decide)), fun h => .inr (hJ.c4 (h.resolve_left (by decide))), fun h => .inr (hJ.c11 (h.resolve_left (by decide))), fun h => .inr (hJ.c15 (h.resolve_left (by decide))), fun h => .inr (hJ.c16 (h.resolve_left (by decide)))⟩⟩⟩
    · rintro on X W ⟨rv, RN, RX, hh, hJ⟩ hn hd
      have h0 := hout (X := X) (k := 0) (by rw [← hds]; decide)
      rw [hA0] at h0
      refine op_value (v := .slice go gn gc) (w' := W) ?_ ?_
      · generalize (puts A X ds).eval = ρ at h0 ⊢
        go_simp
      · exact ⟨upd X 25 (.slice go gn gc), puts_put _ (by rw [← hds]; decide), ⟨rv, RN, RX, hh, ⟨hJ.low, fun h h2 => hJ.x24 (h.resolve_left (by decide)) (fun h3 => h2 (.inr h3)), fun h h2 => hJ.n24 (h.resolve_left (by decide)) (fun h3 => h2 (.inr h3)), fun h h2 => hJ.l24 (h.resolve_left (by decide)) (fun h3 => h2 (.inr h3)), fun h h2 => hJ.x28 (h.resolve_left (by decide)) (fun h3 => h2 (.inr h3)), fun h h2 => hJ.n28 (h.resolve_left (by decide)) (fun h3 => h2 (.inr h3)), fun h h2 => hJ.l28 (h.resolve_left (by decide)) (fun h3 => h2 (.inr h3)), fun h h2 => hJ.x35 (h.resolve_left (by decide)) (fun h3 => h2 (.inr h3)), fun h h2 => hJ.n35 (h.resolve_left (by decide)) (fun h3 => h2 (.inr h3)), fun h h2 => hJ.l35 (h.resolve_left (by decide)) (fun h3 => h2 (.inr h3)), fun h => hJ.x39 (h.resolve_left (by decide)), fun h => hJ.n39 (h.resolve_left (by decide)), fun h => hJ.l39 (h.resolve_left (by decide)), fun h => hJ.row (h.resolve_left (by decide)), fun h => hJ.sm (h.resolve_left (by decide)), fun _ => rfl, fun h => hJ.x26 (h.resolve_left (by decide)), fun h => hJ.x27 (h.resolve_left (by decide)), fun h => hJ.x29 (h.resolve_left (by decide)), fun h => hJ.x30 (h.resolve_left (by decide)), fun h => hJ.x31 (h.resolve_left (by decide)), fun h => hJ.x32 (h.resolve_left (by decide)), fun h => hJ.x33 (h.resolve_left (by decide)), fun h => hJ.x34 (h.resolve_left (by decide)), fun h => hJ.new (h.resolve_left (by decide)), fun h h2 => hJ.dn (h.resolve_left (by decide)) (h2.resolve_left (by decide)), fun h => hJ.x36 (h.resolve_left (by decide)), fun h => hJ.x37 (h.resolve_left (by decide)), fun h => hJ.x38 (h.resolve_left (by decide)), fun h => hJ.x4 (h.resolve_left (by decide)), fun h => hJ.x5 (h.resolve_left (by decide)), fun h => .inr (hJ.c4 (h.resolve_left (by decide))), fun h => .inr (hJ.c11 (h.resolve_left (by decide))), fun h => .inr (hJ.c15 (h.resolve_left (by decide))), fun h => .inr (hJ.c16 (h.resolve_left (by decide)))⟩⟩⟩
    · rintro on X W ⟨rv, RN, RX, hh, hJ⟩ hn hd
      have h0 := hout (X := X) (k := 6) (by rw [← hds]; decide)
      rw [hA6] at h0
      refine op_value (v := .int .i64 at_) (w' := W) ?_ ?_
      · generalize (puts A X ds).eval = ρ at h0 ⊢
        go_simp
      · exact ⟨upd X 26 (.int .i64 at_), puts_put _ (by rw [← hds]; decide), ⟨rv, RN, RX, hh, ⟨hJ.low, fun h h2 => hJ.x24 (h.resolve_left (by decide)) (fun h3 => h2 (.inr h3)), fun h h2 => hJ.n24 (h.resolve_left (by decide)) (fun h3 => h2 (.inr h3)), fun h h2 => hJ.l24 (h.resolve_left (by decide)) (fun h3 => h2 (.inr h3)), fun h h2 => hJ.x28 (h.resolve_left (by decide)) (fun h3 => h2 (.inr h3)), fun h h2 => hJ.n28 (h.resolve_left (by decide)) (fun h3 => h2 (.inr h3)), fun h h2 => hJ.l28 (h.resolve_left (by decide)) (fun h3 => h2 (.inr h3)), fun h h2 => hJ.x35 (h.resolve_left (by decide)) (fun h3 => h2 (.inr h3)), fun h h2 => hJ.n35 (h.resolve_left (by decide)) (fun h3 => h2 (.inr h3)), fun h h2 => hJ.l35 (h.resolve_left (by decide)) (fun h3 => h2 (.inr h3)), fun h => hJ.x39 (h.resolve_left (by decide)), fun h => hJ.n39 (h.resolve_left (by decide)), fun h => hJ.l39 (h.resolve_left (by decide)), fun h => hJ.row (h.resolve_left (by decide)), fun h => hJ.sm (h.resolve_left (by decide)), fun h => hJ.x25 (h.resolve_left (by decide)), fun _ => rfl, fun h => hJ.x27 (h.resolve_left (by decide)), fun h => hJ.x29 (h.resolve_left (by decide)), fun h => hJ.x30 (h.resolve_left (by decide)), fun h => hJ.x31 (h.resolve_left (by decide)), fun h => hJ.x32 (h.resolve_left (by decide)), fun h => hJ.x33 (h.resolve_left (by decide)), fun h => hJ.x34 (h.resolve_left (by decide)), fun h => hJ.new (h.resolve_left (by decide)), fun h h2 => hJ.dn (h.resolve_left (by decide)) (h2.resolve_left (by decide)), fun h => hJ.x36 (h.resolve_left (by decide)), fun h => hJ.x37 (h.resolve_left (by decide)), fun h => hJ.x38 (h.resolve_left (by decide)), fun h => hJ.x4 (h.resolve_left (by decide)), fun h => hJ.x5 (h.resolve_left (by decide)), fun h => .inr (hJ.c4 (h.resolve_left (by decide))), fun h => .inr (hJ.c11 (h.resolve_left (by decide))), fun h => .inr (hJ.c15 (h.resolve_left (by decide))), fun h => .inr (hJ.c16 (h.resolve_left (by decide)))⟩⟩⟩
    · rintro on X W ⟨rv, RN, RX, hh, hJ⟩ hn hd
      have h0 := hin (X := X) (k := 25) (by rw [← hds]; decide)
      rw [hJ.x25 (hd 1 (by kernel_rfl))] at h0
      have h1 := hin (X := X) (k := 26) (by rw [← hds]; decide)
      rw [hJ.x26 (hd 2 (by kernel_rfl))] at h1
      refine op_value (v := .slice go at_ gc) (w' := W) ?_ ?_
      · generalize (puts A X ds).eval = ρ at h0 h1 ⊢
        have hac : at_ ≤ gc := by omega
        rcases hgo with ⟨rfl, rfl, rfl, rfl⟩ | ⟨gb, rfl⟩
        · go_simp
        · go_simp
      · exact ⟨upd X 27 (.slice go at_ gc), puts_put _ (by rw [← hds]; decide), ⟨rv, RN, RX, hh, ⟨hJ.low, fun h h2 => hJ.x24 (h.resolve_left (by decide)) (fun h3 => h2 (.inr h3)), fun h h2 => hJ.n24 (h.resolve_left (by decide)) (fun h3 => h2 (.inr h3)), fun h h2 => hJ.l24 (h.resolve_left (by decide)) (fun h3 => h2 (.inr h3)), fun h h2 => hJ.x28 (h.resolve_left (by decide)) (fun h3 => h2 (.inr h3)), fun h h2 => hJ.n28 (h.resolve_left (by decide)) (fun h3 => h2 (.inr h3)), fun h h2 => hJ.l28 (h.resolve_left (by decide)) (fun h3 => h2 (.inr h3)), fun h h2 => hJ.x35 (h.resolve_left (by decide)) (fun h3 => h2 (.inr h3)), fun h h2 => hJ.n35 (h.resolve_left (by decide)) (fun h3 => h2 (.inr h3)), fun h h2 => hJ.l35 (h.resolve_left (by decide)) (fun h3 => h2 (.inr h3)), fun h => hJ.x39 (h.resolve_left (by decide)), fun h => hJ.n39 (h.resolve_left (by decide)), fun h => hJ.l39 (h.resolve_left (by decide)), fun h => hJ.row (h.resolve_left (by decide)), fun h => hJ.sm (h.resolve_left (by decide)), fun h => hJ.x25 (h.resolve_left (by decide)), fun h => hJ.x26 (h.resolve_left (by decide)), fun _ => rfl, fun h => hJ.x29 (h.resolve_left (by decide)), fun h => hJ.x30 (h.resolve_left (by decide)), fun h => hJ.x31 (h.resolve_left (by decide)), fun h => hJ.x32 (h.resolve_left (by decide)), fun h => hJ.x33 (h.resolve_left (by decide)), fun h => hJ.x34 (h.resolve_left (by decide)), fun h => hJ.new (h.resolve_left (by decide)), fun h h2 => hJ.dn (h.resolve_left (by decide)) (h2.resolve_left (by decide)), fun h => hJ.x36 (h.resolve_left (by decide)), fun h => hJ.x37 (h.resolve_left (by decide)), fun h => hJ.x38 (h.resolve_left (by decide)), fun h => hJ.x4 (h.resolve_left (by decide)), fun h => hJ.x5 (h.resolve_left (by decide)), fun h => .inr (hJ.c4 (h.resolve_left (by decide))), fun h => .inr (hJ.c11 (h.resolve_left (by decide))), fun h => .inr (hJ.c15 (h.resolve_left (by decide))), fun h => .inr (hJ.c16 (h.resolve_left (by decide)))⟩⟩⟩
    · rintro on X W ⟨rv, RN, RX, hh, hJ⟩ hn hd
      have hrow0 := hJ.row (hd 0 (by kernel_rfl))
      have hrow := hrow0
      rw [hJ.n24 (hd 0 (by kernel_rfl)) hn, hJ.l24 (hd 0 (by kernel_rfl)) hn] at hrow
      have h0 := hin (X := X) (k := 24) (by rw [← hds]; decide)
      rw [hJ.x24 (hd 0 (by kernel_rfl)) hn] at h0
      have h1 := hin (X := X) (k := 27) (by rw [← hds]; decide)
      rw [hJ.x27 (hd 3 (by kernel_rfl))] at h1
      refine op_appendG Try.underlying28 hi hz0 hz1 hz2 rfl (by decide) (by decide) rfl W0.heap.size rv (0) ([]) h0 hrow h1 (s1) hl1 (HS1 W hJ.low) ho1 (by omega) hJ.low.size ?_
      intro v' W' hown hgrow hat
      have f : Fr W W' (fun k => rv.ownBlock = some k) := Fr.grown hgrow (fun k hk => hk)
      have hsm : v'.ownBlock ≠ none := by
        rcases hat with h5 | h5
        · rw [h5]; exact hJ.sm (hd 0 (by kernel_rfl))
        · rw [h5]; simp
      have hdn : (10 = 4 ∨ on 10) → v'.ownBlock ≠ some hh := by
        intro h e0
        have h10 := h.resolve_left (by decide)
        rcases hat with h5 | h5
        · exact hJ.dn (hd 0 (by kernel_rfl)) h10 (h5.symm.trans e0)
        · have h6 := Option.some.inj (h5.symm.trans e0)
          have := lt_of_block (hJ.new h10)
          omega
      exact ⟨upd X 28 v', puts_put _ (by rw [← hds]; decide), ⟨v', 0 + at_, [] ++ s1, hh, ⟨hJ.low.trans (f.below hJ.low.size (fun k hk => (World.ownsRow.lt hrow0 k hk).1)), fun _ h => absurd (.inl rfl) h, fun _ h => absurd (.inl rfl) h, fun _ h => absurd (.inl rfl) h, fun _ _ => rfl, fun _ _ => rfl, fun _ _ => rfl, fun h _ => absurd (hJ.c11 (h.resolve_left (by decide))) hn, fun h _ => absurd (hJ.c11 (h.resolve_left (by decide))) hn, fun h _ => absurd (hJ.c11 (h.resolve_left (by decide))) hn, fun h => absurd (hJ.c11 (hJ.c15 (h.resolve_left (by decide)))) hn, fun h => absurd (hJ.c11 (hJ.c15 (h.resolve_left (by decide)))) hn, fun h => absurd (hJ.c11 (hJ.c15 (h.resolve_left (by decide)))) hn, fun _ => hown, fun _ => hsm, fun h => hJ.x25 (h.resolve_left (by decide)), fun h => hJ.x26 (h.resolve_left (by decide)), fun h => hJ.x27 (h.resolve_left (by decide)), fun h => hJ.x29 (h.resolve_left (by decide)), fun h => hJ.x30 (h.resolve_left (by decide)), fun h => hJ.x31 (h.resolve_left (by decide)), fun h => hJ.x32 (h.resolve_left (by decide)), fun h => hJ.x33 (h.resolve_left (by decide)), fun h => hJ.x34 (h.resolve_left (by decide)), fun h => (f.block _ (lt_of_block (hJ.new (h.resolve_left (by decide)))) (fun e0 => hJ.dn (hd 0 (by kernel_rfl)) (h.resolve_left (by decide)) e0)).trans (hJ.new (h.resolve_left (by decide))), fun _ h => hdn h, fun h => hJ.x36 (h.resolve_left (by decide)), fun h => hJ.x37 (h.resolve_left (by decide)), fun h => hJ.x38 (h.resolve_left (by decide)), fun h => absurd (hJ.c11 (hJ.c15 (hJ.c16 (h.resolve_left (by decide))))) hn, fun h => hJ.x5 (h.resolve_left (by decide)), fun _ => .inr (hd 0 (by kernel_rfl)), fun h => .inr (hJ.c11 (h.resolve_left (by decide))), fun h => .inr (hJ.c15 (h.resolve_left (by decide))), fun h => .inr (hJ.c16 (h.resolve_left (by decide)))⟩⟩⟩
    · rintro on X W ⟨rv, RN, RX, hh, hJ⟩ hn hd
      have h0 := hout (X := X) (k := 3) (by rw [← hds]; decide)
      rw [hA3] at h0
      refine op_value (v := .pointer (some ⟨bm, 1, none⟩)) (w' := W) ?_ ?_
      · generalize (puts A X ds).eval = ρ at h0 ⊢
        go_simp
      · exact ⟨upd X 29 (.pointer (some ⟨bm, 1, none⟩)), puts_put _ (by rw [← hds]; decide), ⟨rv, RN, RX, hh, ⟨hJ.low, fun h h2 => hJ.x24 (h.resolve_left (by decide)) (fun h3 => h2 (.inr h3)), fun h h2 => hJ.n24 (h.resolve_left (by decide)) (fun h3 => h2 (.inr h3)), fun h h2 => hJ.l24 (h.resolve_left (by decide)) (fun h3 => h2 (.inr h3)), fun h h2 => hJ.x28 (h.resolve_left (by decide)) (fun h3 => h2 (.inr h3)), fun h h2 => hJ.n28 (h.resolve_left (by decide)) (fun h3 => h2 (.inr h3)), fun h h2 => hJ.l28 (h.resolve_left (by decide)) (fun h3 => h2 (.inr h3)), fun h h2 => hJ.x35 (h.resolve_left (by decide)) (fun h3 => h2 (.inr h3)), fun h h2 => hJ.n35 (h.resolve_left (by decide)) (fun h3 => h2 (.inr h3)), fun h h2 => hJ.l35 (h.resolve_left (by decide)) (fun h3 => h2 (.inr h3)), fun h => hJ.x39 (h.resolve_left (by decide)), fun h => hJ.n39 (h.resolve_left (by decide)), fun h => hJ.l39 (h.resolve_left (by decide)), fun h => hJ.row (h.resolve_left (by decide)), fun h => hJ.sm (h.resolve_left (by decide)), fun h => hJ.x25 (h.resolve_left (by decide)), fun h => hJ.x26 (h.resolve_left (by decide)), fun h => hJ.x27 (h.resolve_left (by decide)), fun _ => rfl, fun h => hJ.x30 (h.resolve_left (by decide)), fun h => hJ.x31 (h.resolve_left (by decide)), fun h => hJ.x32 (h.resolve_left (by decide)), fun h => hJ.x33 (h.resolve_left (by decide)), fun h => hJ.x34 (h.resolve_left (by decide)), fun h => hJ.new (h.resolve_left (by decide)), fun h h2 => hJ.dn (h.resolve_left (by decide)) (h2.resolve_left (by decide)), fun h => hJ.x36 (h.resolve_left (by decide)), fun h => hJ.x37 (h.resolve_left (by decide)), fun h => hJ.x38 (h.resolve_left (by decide)), fun h => hJ.x4 (h.resolve_left (by decide)), fun h => hJ.x5 (h.resolve_left (by decide)), fun h => .inr (hJ.c4 (h.resolve_left (by decide))), fun h => .inr (hJ.c11 (h.resolve_left (by decide))), fun h => .inr (hJ.c15 (h.resolve_left (by decide))), fun h => .inr (hJ.c16 (h.resolve_left (by decide)))⟩⟩⟩
    · rintro on X W ⟨rv, RN, RX, hh, hJ⟩ hn hd
      have h0 := hin (X := X) (k := 29) (by rw [← hds]; decide)
      rw [hJ.x29 (hd 5 (by kernel_rfl))] at h0
      refine op_value (v := .int .i64 m.i) (w' := W) ?_ ?_
      · generalize (puts A X ds).eval = ρ at h0 ⊢
        have hc := HC1 W hJ.low
        go_simp
      · exact ⟨upd X 30 (.int .i64 m.i), puts_put _ (by rw [← hds]; decide), ⟨rv, RN, RX, hh, ⟨hJ.low, fun h h2 => hJ.x24 (h.resolve_left (by decide)) (fun h3 => h2 (.inr h3)), fun h h2 => hJ.n24 (h.resolve_left (by decide)) (fun h3 => h2 (.inr h3)), fun h h2 => hJ.l24 (h.resolve_left (by decide)) (fun h3 => h2 (.inr h3)), fun h h2 => hJ.x28 (h.resolve_left (by decide)) (fun h3 => h2 (.inr h3)), fun h h2 => hJ.n28 (h.resolve_left (by decide)) (fun h3 => h2 (.inr h3)), fun h h2 => hJ.l28 (h.resolve_left (by decide)) (fun h3 => h2 (.inr h3)), fun h h2 => hJ.x35 (h.resolve_left (by decide)) (fun h3 => h2 (.inr h3)), fun h h2 => hJ.n35 (h.resolve_left (by decide)) (fun h3 => h2 (.inr h3)), fun h h2 => hJ.l35 (h.resolve_left (by decide)) (fun h3 => h2 (.inr h3)), fun h => hJ.x39 (h.resolve_left (by decide)), fun h => hJ.n39 (h.resolve_left (by decide)), fun h => hJ.l39 (h.resolve_left (by decide)), fun h => hJ.row (h.resolve_left (by decide)), fun h => hJ.sm (h.resolve_left (by decide)), fun h => hJ.x25 (h.resolve_left (by decide)), fun h => hJ.x26 (h.resolve_left (by decide)), fun h => hJ.x27 (h.resolve_left (by decide)), fun h => hJ.x29 (h.resolve_left (by decide)), fun _ => rfl, fun h => hJ.x31 (h.resolve_left (by decide)), fun h => hJ.x32 (h.resolve_left (by decide)), fun h => hJ.x33 (h.resolve_left (by decide)), fun h => hJ.x34 (h.resolve_left (by decide)), fun h => hJ.new (h.resolve_left (by decide)), fun h h2 => hJ.dn (h.resolve_left (by decide)) (h2.resolve_left (by decide)), fun h => hJ.x36 (h.resolve_left (by decide)), fun h => hJ.x37 (h.resolve_left (by decide)), fun h => hJ.x38 (h.resolve_left (by decide)), fun h => hJ.x4 (h.resolve_left (by decide)), fun h => hJ.x5 (h.resolve_left (by decide)), fun h => .inr (hJ.c4 (h.resolve_left (by decide))), fun h => .inr (hJ.c11 (h.resolve_left (by decide))), fun h => .inr (hJ.c15 (h.resolve_left (by decide))), fun h => .inr (hJ.c16 (h.resolve_left (by decide)))⟩⟩⟩
    · rintro on X W ⟨rv, RN, RX, hh, hJ⟩ hn hd
      have h0 := hout (X := X) (k := 3) (by rw [← hds]; decide)
      rw [hA3] at h0
      refine op_value (v := .pointer (some ⟨bm, 3, none⟩)) (w' := W) ?_ ?_
      · generalize (puts A X ds).eval = ρ at h0 ⊢
        go_simp
      · exact ⟨upd X 31 (.pointer (some ⟨bm, 3, none⟩)), puts_put _ (by rw [← hds]; decide), ⟨rv, RN, RX, hh, ⟨hJ.low, fun h h2 => hJ.x24 (h.resolve_left (by decide)) (fun h3 => h2 (.inr h3)), fun h h2 => hJ.n24 (h.resolve_left (by decide)) (fun h3 => h2 (.inr h3)), fun h h2 => hJ.l24 (h.resolve_left (by decide)) (fun h3 => h2 (.inr h3)), fun h h2 => hJ.x28 (h.resolve_left (by decide)) (fun h3 => h2 (.inr h3)), fun h h2 => hJ.n28 (h.resolve_left (by decide)) (fun h3 => h2 (.inr h3)), fun h h2 => hJ.l28 (h.resolve_left (by decide)) (fun h3 => h2 (.inr h3)), fun h h2 => hJ.x35 (h.resolve_left (by decide)) (fun h3 => h2 (.inr h3)), fun h h2 => hJ.n35 (h.resolve_left (by decide)) (fun h3 => h2 (.inr h3)), fun h h2 => hJ.l35 (h.resolve_left (by decide)) (fun h3 => h2 (.inr h3)), fun h => hJ.x39 (h.resolve_left (by decide)), fun h => hJ.n39 (h.resolve_left (by decide)), fun h => hJ.l39 (h.resolve_left (by decide)), fun h => hJ.row (h.resolve_left (by decide)), fun h => hJ.sm (h.resolve_left (by decide)), fun h => hJ.x25 (h.resolve_left (by decide)), fun h => hJ.x26 (h.resolve_left (by decide)), fun h => hJ.x27 (h.resolve_left (by decide)), fun h => hJ.x29 (h.resolve_left (by decide)), fun h => hJ.x30 (h.resolve_left (by decide)), fun _ => rfl, fun h => hJ.x32 (h.resolve_left (by decide)), fun h => hJ.x33 (h.resolve_left (by decide)), fun h => hJ.x34 (h.resolve_left (by decide)), fun h => hJ.new (h.resolve_left (by decide)), fun h h2 => hJ.dn (h.resolve_left (by decide)) (h2.resolve_left (by decide)), fun h => hJ.x36 (h.resolve_left (by decide)), fun h => hJ.x37 (h.resolve_left (by decide)), fun h => hJ.x38 (h.resolve_left (by decide)), fun h => hJ.x4 (h.resolve_left (by decide)), fun h => hJ.x5 (h.resolve_left (by decide)), fun h => .inr (hJ.c4 (h.resolve_left (by decide))), fun h => .inr (hJ.c11 (h.resolve_left (by decide))), fun h => .inr (hJ.c15 (h.resolve_left (by decide))), fun h => .inr (hJ.c16 (h.resolve_left (by decide)))⟩⟩⟩
    · rintro on X W ⟨rv, RN, RX, hh, hJ⟩ hn hd
      have h0 := hin (X := X) (k := 31) (by rw [← hds]; decide)
      rw [hJ.x31 (hd 7 (by kernel_rfl))] at h0
      refine op_value (v := .int .i64 m.v) (w' := W) ?_ ?_
      · generalize (puts A X ds).eval = ρ at h0 ⊢
        have hc := HC3 W hJ.low
        go_simp
      · exact ⟨upd X 32 (.int .i64 m.v), puts_put _ (by rw [← hds]; decide), ⟨rv, RN, RX, hh, ⟨hJ.low, fun h h2 => hJ.x24 (h.resolve_left (by decide)) (fun h3 => h2 (.inr h3)), fun h h2 => hJ.n24 (h.resolve_left (by decide)) (fun h3 => h2 (.inr h3)), fun h h2 => hJ.l24 (h.resolve_left (by decide)) (fun h3 => h2 (.inr h3)), fun h h2 => hJ.x28 (h.resolve_left (by decide)) (fun h3 => h2 (.inr h3)), fun h h2 => hJ.n28 (h.resolve_left (by decide)) (fun h3 => h2 (.inr h3)), fun h h2 => hJ.l28 (h.resolve_left (by decide)) (fun h3 => h2 (.inr h3)), fun h h2 => hJ.x35 (h.resolve_left (by decide)) (fun h3 => h2 (.inr h3)), fun h h2 => hJ.n35 (h.resolve_left (by decide)) (fun h3 => h2 (.inr h3)), fun h h2 => hJ.l35 (h.resolve_left (by decide)) (fun h3 => h2 (.inr h3)), fun h => hJ.x39 (h.resolve_left (by decide)), fun h => hJ.n39 (h.resolve_left (by decide)), fun h => hJ.l39 (h.resolve_left (by decide)), fun h => hJ.row (h.resolve_left (by decide)), fun h => hJ.sm (h.resolve_left (by decide)), fun h => hJ.x25 (h.resolve_left (by decide)), fun h => hJ.x26 (h.resolve_left (by decide)), fun h => hJ.x27 (h.resolve_left (by decide)), fun h => hJ.x29 (h.resolve_left (by decide)), fun h => hJ.x30 (h.resolve_left (by decide)), fun h => hJ.x31 (h.resolve_left (by decide)), fun _ => rfl, fun h => hJ.x33 (h.resolve_left (by decide)), fun h => hJ.x34 (h.resolve_left (by decide)), fun h => hJ.new (h.resolve_left (by decide)), fun h h2 => hJ.dn (h.resolve_left (by decide)) (h2.resolve_left (by decide)), fun h => hJ.x36 (h.resolve_left (by decide)), fun h => hJ.x37 (h.resolve_left (by decide)), fun h => hJ.x38 (h.resolve_left (by decide)), fun h => hJ.x4 (h.resolve_left (by decide)), fun h => hJ.x5 (h.resolve_left (by decide)), fun h => .inr (hJ.c4 (h.resolve_left (by decide))), fun h => .inr (hJ.c11 (h.resolve_left (by decide))), fun h => .inr (hJ.c15 (h.resolve_left (by decide))), fun h => .inr (hJ.c16 (h.resolve_left (by decide)))⟩⟩⟩
    · rintro on X W ⟨rv, RN, RX, hh, hJ⟩ hn hd
      have h0 := hin (X := X) (k := 30) (by rw [← hds]; decide)
      rw [hJ.x30 (hd 6 (by kernel_rfl))] at h0
      have h1 := hin (X := X) (k := 32) (by rw [← hds]; decide)
      rw [hJ.x32 (hd 8 (by kernel_rfl))] at h1
      refine op_value (v := .agg #[.int .i64 m.i, .int .i64 m.v, .slice none 0 0]) (w' := W) ?_ ?_
      · generalize (puts A X ds).eval = ρ at h0 h1 ⊢
        go_simp
      · exact ⟨upd X 33 (.agg #[.int .i64 m.i, .int .i64 m.v, .slice none 0 0]), puts_put _ (by rw [← hds]; decide), ⟨rv, RN, RX, hh, ⟨hJ.low, fun h h2 => hJ.x24 (h.resolve_left (by decide)) (fun h3 => h2 (.inr h3)), fun h h2 => hJ.n24 (h.resolve_left (by decide)) (fun h3 => h2 (.inr h3)), fun h h2 => hJ.l24 (h.resolve_left (by decide)) (fun h3 => h2 (.inr h3)), fun h h2 => hJ.x28 (h.resolve_left (by decide)) (fun h3 => h2 (.inr h3)), fun h h2 => hJ.n28 (h.resolve_left (by decide)) (fun h3 => h2 (.inr h3)), fun h h2 => hJ.l28 (h.resolve_left (by decide)) (fun h3 => h2 (.inr h3)), fun h h2 => hJ.x35 (h.resolve_left (by decide)) (fun h3 => h2 (.inr h3)), fun h h2 => hJ.n35 (h.resolve_left (by decide)) (fun h3 => h2 (.inr h3)), fun h h2 => hJ.l35 (h.resolve_left (by decide)) (fun h3 => h2 (.inr h3)), fun h => hJ.x39 (h.resolve_left (by decide)), fun h => hJ.n39 (h.resolve_left (by decide)), fun h => hJ.l39 (h.resolve_left (by decide)), fun h => hJ.row (h.resolve_left (by decide)), fun h => hJ.sm (h.resolve_left (by decide)), fun h => hJ.x25 (h.resolve_left (by decide)), fun h => hJ.x26 (h.resolve_left (by decide)), fun h => hJ.x27 (h.resolve_left (by decide)), fun h => hJ.x29 (h.resolve_left (by decide)), fun h => hJ.x30 (h.resolve_left (by decide)), fun h => hJ.x31 (h.resolve_left (by decide)), fun h => hJ.x32 (h.resolve_left (by decide)), fun _ => rfl, fun h => hJ.x34 (h.resolve_left (by decide)), fun h => hJ.new (h.resolve_left (by decide)), fun h h2 => hJ.dn (h.resolve_left (by decide)) (h2.resolve_left (by decide)), fun h => hJ.x36 (h.resolve_left (by decide)), fun h => hJ.x37 (h.resolve_left (by decide)), fun h => hJ.x38 (h.resolve_left (by decide)), fun h => hJ.x4 (h.resolve_left (by decide)), fun h => hJ.x5 (h.resolve_left (by decide)), fun h => .inr (hJ.c4 (h.resolve_left (by decide))), fun h => .inr (hJ.c11 (h.resolve_left (by decide))), fun h => .inr (hJ.c15 (h.resolve_left (by decide))), fun h => .inr (hJ.c16 (h.resolve_left (by decide)))⟩⟩⟩
    · rintro on X W ⟨rv, RN, RX, hh, hJ⟩ hn hd
      have h0 := hin (X := X) (k := 33) (by rw [← hds]; decide)
      rw [hJ.x33 (hd 9 (by kernel_rfl))] at h0
      have hb : Below W.heap.size W (W.alloc (.cells #[.int .i64 m.i, .int .i64 m.v, .slice none 0 0] 70)) := one_newU _ _
      refine op_value (v := .slice (some ⟨W.heap.size, 0, none⟩) 1 1) (w' := W.alloc (.cells #[.int .i64 m.i, .int .i64 m.v, .slice none 0 0] 70)) ?_ ?_
      · generalize (puts A X ds).eval = ρ at h0 ⊢
        go_simp
      · exact ⟨upd X 34 (.slice (some ⟨W.heap.size, 0, none⟩) 1 1), puts_put _ (by rw [← hds]; decide), ⟨rv, RN, RX, W.heap.size, ⟨hJ.low.trans (hb.mono hJ.low.size), fun h h2 => hJ.x24 (h.resolve_left (by decide)) (fun h3 => h2 (.inr h3)), fun h h2 => hJ.n24 (h.resolve_left (by decide)) (fun h3 => h2 (.inr h3)), fun h h2 => hJ.l24 (h.resolve_left (by decide)) (fun h3 => h2 (.inr h3)), fun h h2 => hJ.x28 (h.resolve_left (by decide)) (fun h3 => h2 (.inr h3)), fun h h2 => hJ.n28 (h.resolve_left (by decide)) (fun h3 => h2 (.inr h3)), fun h h2 => hJ.l28 (h.resolve_left (by decide)) (fun h3 => h2 (.inr h3)), fun h h2 => hJ.x35 (h.resolve_left (by decide)) (fun h3 => h2 (.inr h3)), fun h h2 => hJ.n35 (h.resolve_left (by decide)) (fun h3 => h2 (.inr h3)), fun h h2 => hJ.l35 (h.resolve_left (by decide)) (fun h3 => h2 (.inr h3)), fun h => hJ.x39 (h.resolve_left (by decide)), fun h => hJ.n39 (h.resolve_left (by decide)), fun h => hJ.l39 (h.resolve_left (by decide)), fun h => own_new (hJ.row (h.resolve_left (by decide))) hb, fun h => hJ.sm (h.resolve_left (by decide)), fun h => hJ.x25 (h.resolve_left (by decide)), fun h => hJ.x26 (h.resolve_left (by decide)), fun h => hJ.x27 (h.resolve_left (by decide)), fun h => hJ.x29 (h.resolve_left (by decide)), fun h => hJ.x30 (h.resolve_left (by decide)), fun h => hJ.x31 (h.resolve_left (by decide)), fun h => hJ.x32 (h.resolve_left (by decide)), fun h => hJ.x33 (h.resolve_left (by decide)), fun _ => rfl, fun _ => heap_alloc_new _ _, fun h _ e0 => by have := (World.ownsRow.lt (hJ.row (h.resolve_left (by decide))) _ e0).2; omega, fun h => hJ.x36 (h.resolve_left (by decide)), fun h => hJ.x37 (h.resolve_left (by decide)), fun h => hJ.x38 (h.resolve_left (by decide)), fun h => hJ.x4 (h.resolve_left (by decide)), fun h => hJ.x5 (h.resolve_left (by decide)), fun h => .inr (hJ.c4 (h.resolve_left (by decide))), fun h => .inr (hJ.c11 (h.resolve_left (by decide))), fun h => .inr (hJ.c15 (h.resolve_left (by decide))), fun h => .inr (hJ.c16 (h.resolve_left (by decide)))⟩⟩⟩
    · rintro on X W ⟨rv, RN, RX, hh, hJ⟩ hn hd
      have hrow0 := hJ.row (hJ.c4 (hd 4 (by kernel_rfl)))
      have hrow := hrow0
      rw [hJ.n28 (hd 4 (by kernel_rfl)) hn, hJ.l28 (hd 4 (by kernel_rfl)) hn] at hrow
      have h0 := hin (X := X) (k := 28) (by rw [← hds]; decide)
      rw [hJ.x28 (hd 4 (by kernel_rfl)) hn] at h0
      have h1 := hin (X := X) (k := 34) (by rw [← hds]; decide)
      rw [hJ.x34 (hd 10 (by kernel_rfl))] at h1
      refine op_appendG Try.underlying28 hi hz0 hz1 hz2 rfl (by decide) (by decide) rfl W0.heap.size rv (0 + at_) ([] ++ s1) h0 hrow h1 ([.int .i64 m.i, .int .i64 m.v, .slice none 0 0]) rfl (src_one (hJ.new (hd 10 (by kernel_rfl)))) (by intro u hu; simp at hu; rcases hu with rfl | rfl | rfl <;> rfl) (by omega) hJ.low.size ?_
      intro v' W' hown hgrow hat
      have f : Fr W W' (fun k => rv.ownBlock = some k) := Fr.grown hgrow (fun k hk => hk)
      have hsm : v'.ownBlock ≠ none := by
        rcases hat with h5 | h5
        · rw [h5]; exact hJ.sm (hJ.c4 (hd 4 (by kernel_rfl)))
        · rw [h5]; simp
      have hdn : (10 = 11 ∨ on 10) → v'.ownBlock ≠ some hh := by
        intro h e0
        have h10 := h.resolve_left (by decide)
        rcases hat with h5 | h5
        · exact hJ.dn (hJ.c4 (hd 4 (by kernel_rfl))) h10 (h5.symm.trans e0)
        · have h6 := Option.some.inj (h5.symm.trans e0)
          have := lt_of_block (hJ.new h10)
          omega
      exact ⟨upd X 35 v', puts_put _ (by rw [← hds]; decide), ⟨v', 0 + at_ + 1, [] ++ s1 ++ [.int .i64 m.i, .int .i64 m.v, .slice none 0 0], hh, ⟨hJ.low.trans (f.below hJ.low.size (fun k hk => (World.ownsRow.lt hrow0 k hk).1)), fun _ h2 => absurd (.inr (hd 4 (by kernel_rfl))) h2, fun _ h2 => absurd (.inr (hd 4 (by kernel_rfl))) h2, fun _ h2 => absurd (.inr (hd 4 (by kernel_rfl))) h2, fun _ h => absurd (.inl rfl) h, fun _ h => absurd (.inl rfl) h, fun _ h => absurd (.inl rfl) h, fun _ _ => rfl, fun _ _ => rfl, fun _ _ => rfl, fun h => absurd (hJ.c15 (h.resolve_left (by decide))) hn, fun h => absurd (hJ.c15 (h.resolve_left (by decide))) hn, fun h => absurd (hJ.c15 (h.resolve_left (by decide))) hn, fun _ => hown, fun _ => hsm, fun h => hJ.x25 (h.resolve_left (by decide)), fun h => hJ.x26 (h.resolve_left (by decide)), fun h => hJ.x27 (h.resolve_left (by decide)), fun h => hJ.x29 (h.resolve_left (by decide)), fun h => hJ.x30 (h.resolve_left (by decide)), fun h => hJ.x31 (h.resolve_left (by decide)), fun h => hJ.x32 (h.resolve_left (by decide)), fun h => hJ.x33 (h.resolve_left (by decide)), fun h => hJ.x34 (h.resolve_left (by decide)), fun h => (f.block _ (lt_of_block (hJ.new (h.resolve_left (by decide)))) (fun e0 => hJ.dn (hJ.c4 (hd 4 (by kernel_rfl))) (h.resolve_left (by decide)) e0)).trans (hJ.new (h.resolve_left (by decide))), fun _ h => hdn h, fun h => hJ.x36 (h.resolve_left (by decide)), fun h => hJ.x37 (h.resolve_left (by decide)), fun h => hJ.x38 (h.resolve_left (by decide)), fun h => absurd (hJ.c15 (hJ.c16 (h.resolve_left (by decide)))) hn, fun h => hJ.x5 (h.resolve_left (by decide)), fun h => .inr (hJ.c4 (h.resolve_left (by decide))), fun _ => .inr (hd 4 (by kernel_rfl)), fun h => .inr (hJ.c15 (h.resolve_left (by decide))), fun h => .inr (hJ.c16 (h.resolve_left (by decide)))⟩⟩⟩
    · rintro on X W ⟨rv, RN, RX, hh, hJ⟩ hn hd
      have h0 := hout (X := X) (k := 0) (by rw [← hds]; decide)
      rw [hA0] at h0
      refine op_value (v := .slice go gn gc) (w' := W) ?_ ?_
      · generalize (puts A X ds).eval = ρ at h0 ⊢
        go_simp
      · exact ⟨upd X 36 (.slice go gn gc), puts_put _ (by rw [← hds]; decide), ⟨rv, RN, RX, hh, ⟨hJ.low, fun h h2 => hJ.x24 (h.resolve_left (by decide)) (fun h3 => h2 (.inr h3)), fun h h2 => hJ.n24 (h.resolve_left (by decide)) (fun h3 => h2 (.inr h3)), fun h h2 => hJ.l24 (h.resolve_left (by decide)) (fun h3 => h2 (.inr h3)), fun h h2 => hJ.x28 (h.resolve_left (by decide)) (fun h3 => h2 (.inr h3)), fun h h2 => hJ.n28 (h.resolve_left (by decide)) (fun h3 => h2 (.inr h3)), fun h h2 => hJ.l28 (h.resolve_left (by decide)) (fun h3 => h2 (.inr h3)), fun h h2 => hJ.x35 (h.resolve_left (by decide)) (fun h3 => h2 (.inr h3)), fun h h2 => hJ.n35 (h.resolve_left (by decide)) (fun h3 => h2 (.inr h3)), fun h h2 => hJ.l35 (h.resolve_left (by decide)) (fun h3 => h2 (.inr h3)), fun h => hJ.x39 (h.resolve_left (by decide)), fun h => hJ.n39 (h.resolve_left (by decide)), fun h => hJ.l39 (h.resolve_left (by decide)), fun h => hJ.row (h.resolve_left (by decide)), fun h => hJ.sm (h.resolve_left (by decide)), fun h => hJ.x25 (h.resolve_left (by decide)), fun h => hJ.x26 (h.resolve_left (by decide)), fun h => hJ.x27 (h.resolve_left (by decide)), fun h => hJ.x29 (h.resolve_left (by decide)), fun h => hJ.x30 (h.resolve_left (by decide)), fun h => hJ.x31 (h.resolve_left (by decide)), fun h => hJ.x32 (h.resolve_left (by decide)), fun h => hJ.x33 (h.resolve_left (by decide)), fun h => hJ.x34 (h.resolve_left (by decide)), fun h => hJ.new (h.resolve_left (by decide)), fun h h2 => hJ.dn (h.resolve_left (by decide)) (h2.resolve_left (by decide)), fun _ => rfl, fun h => hJ.x37 (h.resolve_left (by decide)), fun h => hJ.x38 (h.resolve_left (by decide)), fun h => hJ.x4 (h.resolve_left (by decide)), fun h => hJ.x5 (h.resolve_left (by decide)), fun h => .inr (hJ.c4 (h.resolve_left (by decide))), fun h => .inr (hJ.c11 (h.resolve_left (by decide))), fun h => .inr (hJ.c15 (h.resolve_left (by decide))), fun h => .inr (hJ.c16 (h.resolve_left (by decide)))⟩⟩⟩
    · rintro on X W ⟨rv, RN, RX, hh, hJ⟩ hn hd
      have h0 := hout (X := X) (k := 6) (by rw [← hds]; decide)
      rw [hA6] at h0
      refine op_value (v := .int .i64 at_) (w' := W) ?_ ?_
      · generalize (puts A X ds).eval = ρ at h0 ⊢
        go_simp
      · exact ⟨upd X 37 (.int .i64 at_), puts_put _ (by rw [← hds]; decide), ⟨rv, RN, RX, hh, ⟨hJ.low, fun h h2 => hJ.x24 (h.resolve_left (by decide)) (fun h3 => h2 (.inr h3)), fun h h2 => hJ.n24 (h.resolve_left (by decide)) (fun h3 => h2 (.inr h3)), fun h h2 => hJ.l24 (h.resolve_left (by decide)) (fun h3 => h2 (.inr h3)), fun h h2 => hJ.x28 (h.resolve_left (by decide)) (fun h3 => h2 (.inr h3)), fun h h2 => hJ.n28 (h.resolve_left (by decide)) (fun h3 => h2 (.inr h3)), fun h h2 => hJ.l28 (h.resolve_left (by decide)) (fun h3 => h2 (.inr h3)), fun h h2 => hJ.x35 (h.resolve_left (by decide)) (fun h3 => h2 (.inr h3)), fun h h2 => hJ.n35 (h.resolve_left (by decide)) (fun h3 => h2 (.inr h3)), fun h h2 => hJ.l35 (h.resolve_left (by decide)) (fun h3 => h2 (.inr h3)), fun h => hJ.x39 (h.resolve_left (by decide)), fun h => hJ.n39 (h.resolve_left (by decide)), fun h => hJ.l39 (h.resolve_left (by decide)), fun h => hJ.row (h.resolve_left (by decide)), fun h => hJ.sm (h.resolve_left (by decide)), fun h => hJ.x25 (h.resolve_left (by decide)), fun h => hJ.x26 (h.resolve_left (by decide)), fun h => hJ.x27 (h.resolve_left (by decide)), fun h => hJ.x29 (h.resolve_left (by decide)), fun h => hJ.x30 (h.resolve_left (by decide)), fun h => hJ.x31 (h.resolve_left (by decide)), fun h => hJ.x32 (h.resolve_left (by decide)), fun h => hJ.x33 (h.resolve_left (by decide)), fun h => hJ.x34 (h.resolve_left (by decide)), fun h => hJ.new (h.resolve_left (by decide)), fun h h2 => hJ.dn (h.resolve_left (by decide)) (h2.resolve_left (by decide)), fun h => hJ.x36 (h.resolve_left (by decide)), fun _ => rfl, fun h => hJ.x38 (h.resolve_left (by decide)), fun h => hJ.x4 (h.resolve_left (by decide)), fun h => hJ.x5 (h.resolve_left (by decide)), fun h => .inr (hJ.c4 (h.resolve_left (by decide))), fun h => .inr (hJ.c11 (h.resolve_left (by decide))), fun h => .inr (hJ.c15 (h.resolve_left (by decide))), fun h => .inr (hJ.c16 (h.resolve_left (by decide)))⟩⟩⟩
    · rintro on X W ⟨rv, RN, RX, hh, hJ⟩ hn hd
      have h0 := hin (X := X) (k := 36) (by rw [← hds]; decide)
      rw [hJ.x36 (hd 12 (by kernel_rfl))] at h0
      have h1 := hin (X := X) (k := 37) (by rw [← hds]; decide)
      rw [hJ.x37 (hd 13 (by kernel_rfl))] at h1
      refine op_value (v := .slice (subA 3 go gc at_) (gn - at_) (gc - at_)) (w' := W) ?_ ?_
      · generalize (puts A X ds).eval = ρ at h0 h1 ⊢
        have hac : at_ ≤ gc := by omega
        rcases hgo with ⟨rfl, rfl, rfl, rfl⟩ | ⟨gb, rfl⟩
        · rw [subA_none]
          go_simp
        · rw [subA_some]
          go_simp
      · exact ⟨upd X 38 (.slice (subA 3 go gc at_) (gn - at_) (gc - at_)), puts_put _ (by rw [← hds]; decide), ⟨rv, RN, RX, hh, ⟨hJ.low, fun h h2 => hJ.x24 (h.resolve_left (by decide)) (fun h3 => h2 (.inr h3)), fun h h2 => hJ.n24 (h.resolve_left (by decide)) (fun h3 => h2 (.inr h3)), fun h h2 => hJ.l24 (h.resolve_left (by decide)) (fun h3 => h2 (.inr h3)), fun h h2 => hJ.x28 (h.resolve_left (by decide)) (fun h3 => h2 (.inr h3)), fun h h2 => hJ.n28 (h.resolve_left (by decide)) (fun h3 => h2 (.inr h3)), fun h h2 => hJ.l28 (h.resolve_left (by decide)) (fun h3 => h2 (.inr h3)), fun h h2 => hJ.x35 (h.resolve_left (by decide)) (fun h3 => h2 (.inr h3)), fun h h2 => hJ.n35 (h.resolve_left (by decide)) (fun h3 => h2 (.inr h3)), fun h h2 => hJ.l35 (h.resolve_left (by decide)) (fun h3 => h2 (.inr h3)), fun h => hJ.x39 (h.resolve_left (by decide)), fun h => hJ.n39 (h.resolve_left (by decide)), fun h => hJ.l39 (h.resolve_left (by decide)), fun h => hJ.row (h.resolve_left (by decide)), fun h => hJ.sm (h.resolve_left (by decide)), fun h => hJ.x25 (h.resolve_left (by decide)), fun h => hJ.x26 (h.resolve_left (by decide)), fun h => hJ.x27 (h.resolve_left (by decide)), fun h => hJ.x29 (h.resolve_left (by decide)), fun h => hJ.x30 (h.resolve_left (by decide)), fun h => hJ.x31 (h.resolve_left (by decide)), fun h => hJ.x32 (h.resolve_left (by decide)), fun h => hJ.x33 (h.resolve_left (by decide)), fun h => hJ.x34 (h.resolve_left (by decide)), fun h => hJ.new (h.resolve_left (by decide)), fun h h2 => hJ.dn (h.resolve_left (by decide)) (h2.resolve_left (by decide)), fun h => hJ.x36 (h.resolve_left (by decide)), fun h => hJ.x37 (h.resolve_left (by decide)), fun _ => rfl, fun h => hJ.x4 (h.resolve_left (by decide)), fun h => hJ.x5 (h.resolve_left (by decide)), fun h => .inr (hJ.c4 (h.resolve_left (by decide))), fun h => .inr (hJ.c11 (h.resolve_left (by decide))), fun h => .inr (hJ.c15 (h.resolve_left (by decide))), fun h => .inr (hJ.c16 (h.resolve_left (by decide)))⟩⟩⟩
    · rintro on X W ⟨rv, RN, RX, hh, hJ⟩ hn hd
      have hrow0 := hJ.row (hJ.c4 (hJ.c11 (hd 11 (by kernel_rfl))))
      have hrow := hrow0
      rw [hJ.n35 (hd 11 (by kernel_rfl)) hn, hJ.l35 (hd 11 (by kernel_rfl)) hn] at hrow
      have h0 := hin (X := X) (k := 35) (by rw [← hds]; decide)
      rw [hJ.x35 (hd 11 (by kernel_rfl)) hn] at h0
      have h1 := hin (X := X) (k := 38) (by rw [← hds]; decide)
      rw [hJ.x38 (hd 14 (by kernel_rfl))] at h1
      refine op_appendG Try.underlying28 hi hz0 hz1 hz2 rfl (by decide) (by decide) rfl W0.heap.size rv (0 + at_ + 1) ([] ++ s1 ++ [.int .i64 m.i, .int .i64 m.v, .slice none 0 0]) h0 hrow h1 (s2) hl2 (HS2 W hJ.low) ho2 (by omega) hJ.low.size ?_
      intro v' W' hown hgrow hat
      have f : Fr W W' (fun k => rv.ownBlock = some k) := Fr.grown hgrow (fun k hk => hk)
      have hsm : v'.ownBlock ≠ none := by
        rcases hat with h5 | h5
        · rw [h5]; exact hJ.sm (hJ.c4 (hJ.c11 (hd 11 (by kernel_rfl))))
        · rw [h5]; simp
      have hdn : (10 = 15 ∨ on 10) → v'.ownBlock ≠ some hh := by
        intro h e0
        have h10 := h.resolve_left (by decide)
        rcases hat with h5 | h5
        · exact hJ.dn (hJ.c4 (hJ.c11 (hd 11 (by kernel_rfl)))) h10 (h5.symm.trans e0)
        · have h6 := Option.some.inj (h5.symm.trans e0)
          have := lt_of_block (hJ.new h10)
          omega
      exact ⟨upd X 39 v', puts_put _ (by rw [← hds]; decide), ⟨v', 0 + at_ + 1 + (gn - at_), [] ++ s1 ++ [.int .i64 m.i, .int .i64 m.v, .slice none 0 0] ++ s2, hh, ⟨hJ.low.trans (f.below hJ.low.size (fun k hk => (World.ownsRow.lt hrow0 k hk).1)), fun _ h2 => absurd (.inr (hJ.c11 (hd 11 (by kernel_rfl)))) h2, fun _ h2 => absurd (.inr (hJ.c11 (hd 11 (by kernel_rfl)))) h2, fun _ h2 => absurd (.inr (hJ.c11 (hd 11 (by kernel_rfl)))) h2, fun _ h2 => absurd (.inr (hd 11 (by kernel_rfl))) h2, fun _ h2 => absurd (.inr (hd 11 (by kernel_rfl))) h2, fun _ h2 => absurd (.inr (hd 11 (by kernel_rfl))) h2, fun _ h => absurd (.inl rfl) h, fun _ h => absurd (.inl rfl) h, fun _ h => absurd (.inl rfl) h, fun _ => rfl, fun _ => rfl, fun _ => rfl, fun _ => hown, fun _ => hsm, fun h => hJ.x25 (h.resolve_left (by decide)), fun h => hJ.x26 (h.resolve_left (by decide)), fun h => hJ.x27 (h.resolve_left (by decide)), fun h => hJ.x29 (h.resolve_left (by decide)), fun h => hJ.x30 (h.resolve_left (by decide)), fun h => hJ.x31 (h.resolve_left (by decide)), fun h => hJ.x32 (h.resolve_left (by decide)), fun h => hJ.x33 (h.resolve_left (by decide)), fun h => hJ.x34 (h.resolve_left (by decide)), fun h => (f.block _ (lt_of_block (hJ.new (h.resolve_left (by decide)))) (fun e0 => hJ.dn (hJ.c4 (hJ.c11 (hd 11 (by kernel_rfl)))) (h.resolve_left (by decide)) e0)).trans (hJ.new (h.resolve_left (by decide))), fun _ h => hdn h, fun h => hJ.x36 (h.resolve_left (by decide)), fun h => hJ.x37 (h.resolve_left (by decide)), fun h => hJ.x38 (h.resolve_left (by decide)), fun h => absurd (hJ.c16 (h.resolve_left (by decide))) hn, fun h => hJ.x5 (h.resolve_left (by decide)), fun h => .inr (hJ.c4 (h.resolve_left (by decide))), fun h => .inr (hJ.c11 (h.resolve_left (by decide))), fun _ => .inr (hd 11 (by kernel_rfl)), fun h => .inr (hJ.c16 (h.resolve_left (by decide)))⟩⟩⟩
    · rintro on X W ⟨rv, RN, RX, hh, hJ⟩ hn hd
      have h0 := hin (X := X) (k := 39) (by rw [← hds]; decide)
      rw [hJ.x39 (hd 15 (by kernel_rfl))] at h0
      refine op_value (v := rv) (w' := W) ?_ ?_
      · generalize (puts A X ds).eval = ρ at h0 ⊢
        go_simp
      · exact ⟨upd X 4 rv, puts_put _ (by rw [← hds]; decide), ⟨rv, RN, RX, hh, ⟨hJ.low, fun h h2 => hJ.x24 (h.resolve_left (by decide)) (fun h3 => h2 (.inr h3)), fun h h2 => hJ.n24 (h.resolve_left (by decide)) (fun h3 => h2 (.inr h3)), fun h h2 => hJ.l24 (h.resolve_left (by decide)) (fun h3 => h2 (.inr h3)), fun h h2 => hJ.x28 (h.resolve_left (by decide)) (fun h3 => h2 (.inr h3)), fun h h2 => hJ.n28 (h.resolve_left (by decide)) (fun h3 => h2 (.inr h3)), fun h h2 => hJ.l28 (h.resolve_left (by decide)) (fun h3 => h2 (.inr h3)), fun h h2 => hJ.x35 (h.resolve_left (by decide)) (fun h3 => h2 (.inr h3)), fun h h2 => hJ.n35 (h.resolve_left (by decide)) (fun h3 => h2 (.inr h3)), fun h h2 => hJ.l35 (h.resolve_left (by decide)) (fun h3 => h2 (.inr h3)), fun h => hJ.x39 (h.resolve_left (by decide)), fun h => hJ.n39 (h.resolve_left (by decide)), fun h => hJ.l39 (h.resolve_left (by decide)), fun h => hJ.row (h.resolve_left (by decide)), fun h => hJ.sm (h.resolve_left (by decide)), fun h => hJ.x25 (h.resolve_left (by decide)), fun h => hJ.x26 (h.resolve_left (by decide)), fun h => hJ.x27 (h.resolve_left (by decide)), fun h => hJ.x29 (h.resolve_left (by decide)), fun h => hJ.x30 (h.resolve_left (by decide)), fun h => hJ.x31 (h.resolve_left (by decide)), fun h => hJ.x32 (h.resolve_left (by decide)), fun h => hJ.x33 (h.resolve_left (by decide)), fun h => hJ.x34 (h.resolve_left (by decide)), fun h => hJ.new (h.resolve_left (by decide)), fun h h2 => hJ.dn (h.resolve_left (by decide)) (h2.resolve_left (by decide)), fun h => hJ.x36 (h.resolve_left (by decide)), fun h => hJ.x37 (h.resolve_left (by decide)), fun h => hJ.x38 (h.resolve_left (by decide)), fun _ => rfl, fun h => hJ.x5 (h.resolve_left (by decide)), fun h => .inr (hJ.c4 (h.resolve_left (by decide))), fun h => .inr (hJ.c11 (h.resolve_left (by decide))), fun h => .inr (hJ.c15 (h.resolve_left (by decide))), fun _ => .inr (hd 15 (by kernel_rfl))⟩⟩⟩
    · rintro on X W ⟨rv, RN, RX, hh, hJ⟩ hn hd
      have h0 : (puts A X ds).eval (.const (.bool true)) = (.bool true) := rfl
      refine op_value (v := .bool true) (w' := W) ?_ ?_
      · generalize (puts A X ds).eval = ρ at h0 ⊢
        go_simp
      · exact ⟨upd X 5 (.bool true), puts_put _ (by rw [← hds]; decide), ⟨rv, RN, RX, hh, ⟨hJ.low, fun h h2 => hJ.x24 (h.resolve_left (by decide)) (fun h3 => h2 (.inr h3)), fun h h2 => hJ.n24 (h.resolve_left (by decide)) (fun h3 => h2 (.inr h3)), fun h h2 => hJ.l24 (h.resolve_left (by decide)) (fun h3 => h2 (.inr h3)), fun h h2 => hJ.x28 (h.resolve_left (by decide)) (fun h3 => h2 (.inr h3)), fun h h2 => hJ.n28 (h.resolve_left (by decide)) (fun h3 => h2 (.inr h3)), fun h h2 => hJ.l28 (h.resolve_left (by decide)) (fun h3 => h2 (.inr h3)), fun h h2 => hJ.x35 (h.resolve_left (by decide)) (fun h3 => h2 (.inr h3)), fun h h2 => hJ.n35 (h.resolve_left (by decide)) (fun h3 => h2 (.inr h3)), fun h h2 => hJ.l35 (h.resolve_left (by decide)) (fun h3 => h2 (.inr h3)), fun h => hJ.x39 (h.resolve_left (by decide)), fun h => hJ.n39 (h.resolve_left (by decide)), fun h => hJ.l39 (h.resolve_left (by decide)), fun h => hJ.row (h.resolve_left (by decide)), fun h => hJ.sm (h.resolve_left (by decide)), fun h => hJ.x25 (h.resolve_left (by decide)), fun h => hJ.x26 (h.resolve_left (by decide)), fun h => hJ.x27 (h.resolve_left (by decide)), fun h => hJ.x29 (h.resolve_left (by decide)), fun h => hJ.x30 (h.resolve_left (by decide)), fun h => hJ.x31 (h.resolve_left (by decide)), fun h => hJ.x32 (h.resolve_left (by decide)), fun h => hJ.x33 (h.resolve_left (by decide)), fun h => hJ.x34 (h.resolve_left (by decide)), fun h => hJ.new (h.resolve_left (by decide)), fun h h2 => hJ.dn (h.resolve_left (by decide)) (h2.resolve_left (by decide)), fun h => hJ.x36 (h.resolve_left (by decide)), fun h => hJ.x37 (h.resolve_left (by decide)), fun h => hJ.x38 (h.resolve_left (by decide)), fun h => hJ.x4 (h.resolve_left (by decide)), fun _ => rfl, fun h => .inr (hJ.c4 (h.resolve_left (by decide))), fun h => .inr (hJ.c11 (h.resolve_left (by decide))), fun h => .inr (hJ.c15 (h.resolve_left (by decide))), fun h => .inr (hJ.c16 (h.resolve_left (by decide)))⟩⟩⟩

structure Jone_r9 (W0 : World) (go : Option Addr) (gn gc at_ at2 : Nat) (s1 s2 : List Value) (on : Nat → Prop) (X : Nat → Value) (W : World) (rv : Value) (RN : Nat) (RX : List Value) : Prop where
  low : Below W0.heap.size W0 W
  x46 : on 0 → ¬ on 4 → X 46 = rv
  n46 : on 0 → ¬ on 4 → RN = 0
  l46 : on 0 → ¬ on 4 → RX = []
  x50 : on 4 → ¬ on 9 → X 50 = rv
  n50 : on 4 → ¬ on 9 → RN = 0 + at_
  l50 : on 4 → ¬ on 9 → RX = [] ++ s1
  x55 : on 9 → X 55 = rv
  n55 : on 9 → RN = 0 + at_ + (gn - at2)
  l55 : on 9 → RX = [] ++ s1 ++ s2
  row : on 0 → W.ownsRow W0.heap.size 70 3 rv RN RX
  sm : on 0 → rv.ownBlock ≠ none
  x47 : on 1 → X 47 = .slice go gn gc
  x48 : on 2 → X 48 = .int .i64 at_
  x49 : on 3 → X 49 = .slice go at_ gc
  x51 : on 5 → X 51 = .slice go gn gc
  x52 : on 6 → X 52 = .int .i64 at_
  x53 : on 7 → X 53 = .int .i64 at2
  x54 : on 8 → X 54 = .slice (subA 3 go gc at2) (gn - at2) (gc - at2)
  x4 : on 10 → X 4 = rv
  x5 : on 11 → X 5 = .bool true
  c4 : on 4 → on 0
  c9 : on 9 → on 4
  c10 : on 10 → on 9
set_option maxRecDepth 100000 in
set_option maxHeartbeats 4000000 in
theorem one_r9 {W0 : World} {A : Act} {go : Option Addr} {gn gc at_ at2 : Nat} {s1 s2 : List Value} {K : Act → World → Prop} {Q' : Exit → Act → World → Prop} (hsz : A.tmps.size = 122)
    (hA0 : A.eval (.tmp 0) = .slice go gn gc) (hA6 : A.eval (.tmp 6) = .int .i64 at_) (hgo : ∃ gb, go = some ⟨gb, 0, none⟩) (h2 : (at_ : Int) + 1 = (at2 : Int)) (hat2 : at2 ≤ gn) (hgc : gn ≤ gc) (hgn : gn ≤ 1000000) (hl1 : s1.length = (at_) * 3) (HS1 : ∀ W, Below W0.heap.size W0 W → SrcF W (go) (at_) s1) (ho1 : ∀ u ∈ s1, u.oneCell' = true) (hl2 : s2.length = (gn - at2) * 3) (HS2 : ∀ W, Below W0.heap.size W0 W → SrcF W (subA 3 go gc at2) (gn - at2) s2) (ho2 : ∀ u ∈ s2, u.oneCell' = true)
    (HK : ∀ X W rv, X 4 = rv → X 5 = .bool true → W.ownsRow W0.heap.size 70 3 rv (0 + at_ + (gn - at2)) ([] ++ s1 ++ s2) → rv.ownBlock ≠ none → Below W0.heap.size W0 W → K (puts A X [4, 5, 46, 47, 48, 49, 50, 51, 52, 53, 54, 55]) W) :
    Code.wp Try.prog ((Try.f47.body.bind (regionJ 9)).getD .skip) (Exit.then K Q') A W0 := by
  obtain ⟨i0, hi, hz0, hz1, hz2⟩ := info_parts infoRVx
  have hin : ∀ {X : Nat → Value} {k : Nat}, k ∈ [4, 5, 46, 47, 48, 49, 50, 51, 52, 53, 54, 55] → (puts A X [4, 5, 46, 47, 48, 49, 50, 51, 52, 53, 54, 55]).eval (.tmp k) = X k := fun hk => eval_in hk (by
    rw [hsz]; revert hk; simp only [List.mem_cons, List.not_mem_nil, or_false]; omega)
  have hout : ∀ {X : Nat → Value} {k : Nat}, k ∉ [4, 5, 46, 47, 48, 49, 50, 51, 52, 53, 54, 55] → (puts A X [4, 5, 46, 47, 48, 49, 50, 51, 52, 53, 54, 55]).eval (.tmp k) = A.eval (.tmp k) := fun hk => eval_out hk
  generalize hds : [4, 5, 46, 47, 48, 49, 50, 51, 52, 53, 54, 55] = ds at *
  conv => arg 2; whnf
  refine wp_region_J ds (fun on X W => ∃ rv RN RX, Jone_r9 W0 go gn gc at_ at2 s1 s2 on X W rv RN RX) (by kernel_rfl) (by kernel_rfl) ?start ?steps ?done
  case start =>
    refine ⟨.bool false, 0, [], ?_⟩
    constructor
    · exact ⟨rfl, rfl, rfl, Nat.le_refl _, fun _ _ => rfl⟩
    all_goals first | exact fun h => h.elim
  case done =>
    rintro on X W ⟨rv, RN, RX, hJ⟩ hall
    have hrow := hJ.row (hall 0 (by decide))
    rw [hJ.n55 (hall 9 (by decide)), hJ.l55 (hall 9 (by decide))] at hrow
    exact HK X W rv (hJ.x4 (hall 10 (by decide))) (hJ.x5 (hall 11 (by decide))) hrow (hJ.sm (hall 0 (by decide))) hJ.low
  case steps =>
    refine ⟨?_, ?_, ?_, ?_, ?_, ?_, ?_, ?_, ?_, ?_, ?_, ?_, trivial⟩
    · rintro on X W ⟨rv, RN, RX, hJ⟩ hn hd
      have hb : Below W.heap.size W (W.alloc (.cells #[] 70)) := one_newU _ _
      refine op_value (v := .slice (some ⟨W.heap.size, 0, none⟩) 0 0) (w' := W.alloc (.cells #[] 70)) ?_ ?_
      · generalize (puts A X ds).eval = ρ
        go_simp
      · exact ⟨upd X 46 (.slice (some ⟨W.heap.size, 0, none⟩) 0 0), puts_put _ (by rw [← hds]; decide), ⟨.slice (some ⟨W.heap.size, 0, none⟩) 0 0, 0, [], ⟨hJ.low.trans (hb.mono hJ.low.size), fun _ _ => rfl, fun _ _ => rfl, fun _ _ => rfl, fun h _ => absurd (hJ.c4 (h.resolve_left (by decide))) hn, fun h _ => absurd (hJ.c4 (h.resolve_left (by decide))) hn, fun h _ => absurd (hJ.c4 (h.resolve_left (by decide))) hn, fun h => absurd (hJ.c4 (hJ.c9 (h.resolve_left (by decide)))) hn, fun h => absurd (hJ.c4 (hJ.c9 (h.resolve_left (by decide)))) hn, fun h => absurd (hJ.c4 (hJ.c9 (h.resolve_left (by decide)))) hn, fun _ => own_empty hJ.low.size, fun _ e0 => (by cases e0), fun h => hJ.x47 (h.resolve_left (by decide)), fun h => hJ.x48 (h.resolve_left (by decide)), fun h => hJ.x49 (h.resolve_left (by decide)), fun h => hJ.x51 (h.resolve_left (by decide)), fun h => hJ.x52 (h.resolve_left (by decide)), fun h => hJ.x53 (h.resolve_left (by decide)), fun h => hJ.x54 (h.resolve_left (by decide)), fun h => absurd (hJ.c4 (hJ.c9 (hJ.c10 (h.resolve_left (by decide))))) hn, fun h => hJ.x5 (h.resolve_left (by decide)), fun h => .inr (hJ.c4 (h.resolve_left (by decide))), fun h => .inr (hJ.c9 (h.resolve_left (by decide))), fun h => .inr (hJ.c10 (h.resolve_left (by decide)))⟩⟩⟩
    · rintro on X W ⟨rv, RN, RX, hJ⟩ hn hd
      have h0 := hout (X := X) (k := 0) (by rw [← hds]; decide)
      rw [hA0] at h0
      refine op_value (v := .slice go gn gc) (w' := W) ?_ ?_
      · generalize (puts A X ds).eval = ρ at h0 ⊢
        go_simp
      · exact ⟨upd X 47 (.slice go gn gc), puts_put _ (by rw [← hds]; decide), ⟨rv, RN, RX, ⟨hJ.low, fun h h2 => hJ.x46 (h.resolve_left (by decide)) (fun h3 => h2 (.inr h3)), fun h h2 => hJ.n46 (h.resolve_left (by decide)) (fun h3 => h2 (.inr h3)), fun h h2 => hJ.l46 (h.resolve_left (by decide)) (fun h3 => h2 (.inr h3)), fun h h2 => hJ.x50 (h.resolve_left (by decide)) (fun h3 => h2 (.inr h3)), fun h h2 => hJ.n50 (h.resolve_left (by decide)) (fun h3 => h2 (.inr h3)), fun h h2 => hJ.l50 (h.resolve_left (by decide)) (fun h3 => h2 (.inr h3)), fun h => hJ.x55 (h.resolve_left (by decide)), fun h => hJ.n55 (h.resolve_left (by decide)), fun h => hJ.l55 (h.resolve_left (by decide)), fun h => hJ.row (h.resolve_left (by decide)), fun h => hJ.sm (h.resolve_left (by decide)), fun _ => rfl, fun h => hJ.x48 (h.resolve_left (by decide)), fun h => hJ.x49 (h.resolve_left (by decide)), fun h => hJ.x51 (h.resolve_left (by decide)), fun h => hJ.x52 (h.resolve_left (by decide)), fun h => hJ.x53 (h.resolve_left (by decide)), fun h => hJ.x54 (h.resolve_left (by decide)), fun h => hJ.x4 (h.resolve_left (by decide)), fun h => hJ.x5 (h.resolve_left (by decide)), fun h => .inr (hJ.c4 (h.resolve_left (by decide))), fun h => .inr (hJ.c9 (h.resolve_left (by decide))), fun h => .inr (hJ.c10 (h.resolve_left (by decide)))⟩⟩⟩
    · rintro on X W ⟨rv, RN, RX, hJ⟩ hn hd
      have h0 := hout (X := X) (k := 6) (by rw [← hds]; decide)
      rw [hA6] at h0
      refine op_value (v := .int .i64 at_) (w' := W) ?_ ?_
      · generalize (puts A X ds).eval = ρ at h0 ⊢
        go_simp
      · exact ⟨upd X 48 (.int .i64 at_), puts_put _ (by rw [← hds]; decide), ⟨rv, RN, RX, ⟨hJ.low, fun h h2 => hJ.x46 (h.resolve_left (by decide)) (fun h3 => h2 (.inr h3)), fun h h2 => hJ.n46 (h.resolve_left (by decide)) (fun h3 => h2 (.inr h3)), fun h h2 => hJ.l46 (h.resolve_left (by decide)) (fun h3 => h2 (.inr h3)), fun h h2 => hJ.x50 (h.resolve_left (by decide)) (fun h3 => h2 (.inr h3)), fun h h2 => hJ.n50 (h.resolve_left (by decide)) (fun h3 => h2 (.inr h3)), fun h h2 => hJ.l50 (h.resolve_left (by decide)) (fun h3 => h2 (.inr h3)), fun h => hJ.x55 (h.resolve_left (by decide)), fun h => hJ.n55 (h.resolve_left (by decide)), fun h => hJ.l55 (h.resolve_left (by decide)), fun h => hJ.row (h.resolve_left (by decide)), fun h => hJ.sm (h.resolve_left (by decide)), fun h => hJ.x47 (h.resolve_left (by decide)), fun _ => rfl, fun h => hJ.x49 (h.resolve_left (by decide)), fun h => hJ.x51 (h.resolve_left (by decide)), fun h => hJ.x52 (h.resolve_left (by decide)), fun h => hJ.x53 (h.resolve_left (by decide)), fun h => hJ.x54 (h.resolve_left (by decide)), fun h => hJ.x4 (h.resolve_left (by decide)), fun h => hJ.x5 (h.resolve_left (by decide)), fun h => .inr (hJ.c4 (h.resolve_left (by decide))), fun h => .inr (hJ.c9 (h.resolve_left (by decide))), fun h => .inr (hJ.c10 (h.resolve_left (by decide)))⟩⟩⟩
    · rintro on X W ⟨rv, RN, RX, hJ⟩ hn hd
      have h0 := hin (X := X) (k := 47) (by rw [← hds]; decide)
      rw [hJ.x47 (hd 1 (by kernel_rfl))] at h0
      have h1 := hin (X := X) (k := 48) (by rw [← hds]; decide)
      rw [hJ.x48 (hd 2 (by kernel_rfl))] at h1
      refine op_value (v := .slice go at_ gc) (w' := W) ?_ ?_
      · generalize (puts A X ds).eval = ρ at h0 h1 ⊢
        have hac : at_ ≤ gc := by omega
        obtain ⟨gb, rfl⟩ := hgo
        go_simp
      · exact ⟨upd X 49 (.slice go at_ gc), puts_put _ (by rw [← hds]; decide), ⟨rv, RN, RX, ⟨hJ.low, fun h h2 => hJ.x46 (h.resolve_left (by decide)) (fun h3 => h2 (.inr h3)), fun h h2 => hJ.n46 (h.resolve_left (by decide)) (fun h3 => h2 (.inr h3)), fun h h2 => hJ.l46 (h.resolve_left (by decide)) (fun h3 => h2 (.inr h3)), fun h h2 => hJ.x50 (h.resolve_left (by decide)) (fun h3 => h2 (.inr h3)), fun h h2 => hJ.n50 (h.resolve_left (by decide)) (fun h3 => h2 (.inr h3)), fun h h2 => hJ.l50 (h.resolve_left (by decide)) (fun h3 => h2 (.inr h3)), fun h => hJ.x55 (h.resolve_left (by decide)), fun h => hJ.n55 (h.resolve_left (by decide)), fun h => hJ.l55 (h.resolve_left (by decide)), fun h => hJ.row (h.resolve_left (by decide)), fun h => hJ.sm (h.resolve_left (by decide)), fun h => hJ.x47 (h.resolve_left (by decide)), fun h => hJ.x48 (h.resolve_left (by decide)), fun _ => rfl, fun h => hJ.x51 (h.resolve_left (by decide)), fun h => hJ.x52 (h.resolve_left (by decide)), fun h => hJ.x53 (h.resolve_left (by decide)), fun h => hJ.x54 (h.resolve_left (by decide)), fun h => hJ.x4 (h.resolve_left (by decide)), fun h => hJ.x5 (h.resolve_left (by decide)), fun h => .inr (hJ.c4 (h.resolve_left (by decide))), fun h => .inr (hJ.c9 (h.resolve_left (by decide))), fun h => .inr (hJ.c10 (h.resolve_left (by decide)))⟩⟩⟩
    · rintro on X W ⟨rv, RN, RX, hJ⟩ hn hd
      have hrow0 := hJ.row (hd 0 (by kernel_rfl))
      have hrow := hrow0
      rw [hJ.n46 (hd 0 (by kernel_rfl)) hn, hJ.l46 (hd 0 (by kernel_rfl)) hn] at hrow
      have h0 := hin (X := X) (k := 46) (by rw [← hds]; decide)
      rw [hJ.x46 (hd 0 (by kernel_rfl)) hn] at h0
      have h1 := hin (X := X) (k := 49) (by rw [← hds]; decide)
      rw [hJ.x49 (hd 3 (by kernel_rfl))] at h1
      refine op_appendG Try.underlying28 hi hz0 hz1 hz2 rfl (by decide) (by decide) rfl W0.heap.size rv (0) ([]) h0 hrow h1 (s1) hl1 (HS1 W hJ.low) ho1 (by omega) hJ.low.size ?_
      intro v' W' hown hgrow hat
      have f : Fr W W' (fun k => rv.ownBlock = some k) := Fr.grown hgrow (fun k hk => hk)
      have hsm : v'.ownBlock ≠ none := by
        rcases hat with h5 | h5
        · rw [h5]; exact hJ.sm (hd 0 (by kernel_rfl))
        · rw [h5]; simp
      exact ⟨upd X 50 v', puts_put _ (by rw [← hds]; decide), ⟨v', 0 + at_, [] ++ s1, ⟨hJ.low.trans (f.below hJ.low.size (fun k hk => (World.ownsRow.lt hrow0 k hk).1)), fun _ h => absurd (.inl rfl) h, fun _ h => absurd (.inl rfl) h, fun _ h => absurd (.inl rfl) h, fun _ _ => rfl, fun _ _ => rfl, fun _ _ => rfl, fun h => absurd (hJ.c9 (h.resolve_left (by decide))) hn, fun h => absurd (hJ.c9 (h.resolve_left (by decide))) hn, fun h => absurd (hJ.c9 (h.resolve_left (by decide))) hn, fun _ => hown, fun _ => hsm, fun h => hJ.x47 (h.resolve_left (by decide)), fun h => hJ.x48 (h.resolve_left (by decide)), fun h => hJ.x49 (h.resolve_left (by decide)), fun h => hJ.x51 (h.resolve_left (by decide)), fun h => hJ.x52 (h.resolve_left (by decide)), fun h => hJ.x53 (h.resolve_left (by decide)), fun h => hJ.x54 (h.resolve_left (by decide)), fun h => absurd (hJ.c9 (hJ.c10 (h.resolve_left (by decide)))) hn, fun h => hJ.x5 (h.resolve_left (by decide)), fun _ => .inr (hd 0 (by kernel_rfl)), fun h => .inr (hJ.c9 (h.resolve_left (by decide))), fun h => .inr (hJ.c10 (h.resolve_left (by decide)))⟩⟩⟩
    · rintro on X W ⟨rv, RN, RX, hJ⟩ hn hd
      have h0 := hout (X := X) (k := 0) (by rw [← hds]; decide)
      rw [hA0] at h0
      refine op_value (v := .slice go gn gc) (w' := W) ?_ ?_
      · generalize (puts A X ds).eval = ρ at h0 ⊢
        go_simp
      · exact ⟨upd X 51 (.slice go gn gc), puts_put _ (by rw [← hds]; decide), ⟨rv, RN, RX, ⟨hJ.low, fun h h2 => hJ.x46 (h.resolve_left (by decide)) (fun h3 => h2 (.inr h3)), fun h h2 => hJ.n46 (h.resolve_left (by decide)) (fun h3 => h2 (.inr h3)), fun h h2 => hJ.l46 (h.resolve_left (by decide)) (fun h3 => h2 (.inr h3)), fun h h2 => hJ.x50 (h.resolve_left (by decide)) (fun h3 => h2 (.inr h3)), fun h h2 => hJ.n50 (h.resolve_left (by decide)) (fun h3 => h2 (.inr h3)), fun h h2 => hJ.l50 (h.resolve_left (by decide)) (fun h3 => h2 (.inr h3)), fun h => hJ.x55 (h.resolve_left (by decide)), fun h => hJ.n55 (h.resolve_left (by decide)), fun h => hJ.l55 (h.resolve_left (by decide)), fun h => hJ.row (h.resolve_left (by decide)), fun h => hJ.sm (h.resolve_left (by decide)), fun h => hJ.x47 (h.resolve_left (by decide)), fun h => hJ.x48 (h.resolve_left (by decide)), fun h => hJ.x49 (h.resolve_left (by decide)), fun _ => rfl, fun h => hJ.x52 (h.resolve_left (by decide)), fun h => hJ.x53 (h.resolve_left (by decide)), fun h => hJ.x54 (h.resolve_left (by decide)), fun h => hJ.x4 (h.resolve_left (by decide)), fun h => hJ.x5 (h.resolve_left (by decide)), fun h => .inr (hJ.c4 (h.resolve_left (by decide))), fun h => .inr (hJ.c9 (h.resolve_left (by decide))), fun h => .inr (hJ.c10 (h.resolve_left (by decide)))⟩⟩⟩
    · rintro on X W ⟨rv, RN, RX, hJ⟩ hn hd
      have h0 := hout (X := X) (k := 6) (by rw [← hds]; decide)
      rw [hA6] at h0
      refine op_value (v := .int .i64 at_) (w' := W) ?_ ?_
      · generalize (puts A X ds).eval = ρ at h0 ⊢
        go_simp
      · exact ⟨upd X 52 (.int .i64 at_), puts_put _ (by rw [← hds]; decide), ⟨rv, RN, RX, ⟨hJ.low, fun h h2 => hJ.x46 (h.resolve_left (by decide)) (fun h3 => h2 (.inr h3)), fun h h2 => hJ.n46 (h.resolve_left (by decide)) (fun h3 => h2 (.inr h3)), fun h h2 => hJ.l46 (h.resolve_left (by decide)) (fun h3 => h2 (.inr h3)), fun h h2 => hJ.x50 (h.resolve_left (by decide)) (fun h3 => h2 (.inr h3)), fun h h2 => hJ.n50 (h.resolve_left (by decide)) (fun h3 => h2 (.inr h3)), fun h h2 => hJ.l50 (h.resolve_left (by decide)) (fun h3 => h2 (.inr h3)), fun h => hJ.x55 (h.resolve_left (by decide)), fun h => hJ.n55 (h.resolve_left (by decide)), fun h => hJ.l55 (h.resolve_left (by decide)), fun h => hJ.row (h.resolve_left (by decide)), fun h => hJ.sm (h.resolve_left (by decide)), fun h => hJ.x47 (h.resolve_left (by decide)), fun h => hJ.x48 (h.resolve_left (by decide)), fun h => hJ.x49 (h.resolve_left (by decide)), fun h => hJ.x51 (h.resolve_left (by decide)), fun _ => rfl, fun h => hJ.x53 (h.resolve_left (by decide)), fun h => hJ.x54 (h.resolve_left (by decide)), fun h => hJ.x4 (h.resolve_left (by decide)), fun h => hJ.x5 (h.resolve_left (by decide)), fun h => .inr (hJ.c4 (h.resolve_left (by decide))), fun h => .inr (hJ.c9 (h.resolve_left (by decide))), fun h => .inr (hJ.c10 (h.resolve_left (by decide)))⟩⟩⟩
    · rintro on X W ⟨rv, RN, RX, hJ⟩ hn hd
      have h0 := hin (X := X) (k := 52) (by rw [← hds]; decide)
      rw [hJ.x52 (hd 6 (by kernel_rfl))] at h0
      have h1 : (puts A X ds).eval (.const (.int .i64 1)) = (.int .i64 1) := rfl
      refine op_value (v := .int .i64 at2) (w' := W) ?_ ?_
      · generalize (puts A X ds).eval = ρ at h0 h1 ⊢
        have hw : IntKind.i64.wrap (at2 : Int) = (at2 : Int) := IntWalk.i64_in _ (by omega)
        go_simp
      · exact ⟨upd X 53 (.int .i64 at2), puts_put _ (by rw [← hds]; decide), ⟨rv, RN, RX, ⟨hJ.low, fun h h2 => hJ.x46 (h.resolve_left (by decide)) (fun h3 => h2 (.inr h3)), fun h h2 => hJ.n46 (h.resolve_left (by decide)) (fun h3 => h2 (.inr h3)), fun h h2 => hJ.l46 (h.resolve_left (by decide)) (fun h3 => h2 (.inr h3)), fun h h2 => hJ.x50 (h.resolve_left (by decide)) (fun h3 => h2 (.inr h3)), fun h h2 => hJ.n50 (h.resolve_left (by decide)) (fun h3 => h2 (.inr h3)), fun h h2 => hJ.l50 (h.resolve_left (by decide)) (fun h3 => h2 (.inr h3)), fun h => hJ.x55 (h.resolve_left (by decide)), fun h => hJ.n55 (h.resolve_left (by decide)), fun h => hJ.l55 (h.resolve_left (by decide)), fun h => hJ.row (h.resolve_left (by decide)), fun h => hJ.sm (h.resolve_left (by decide)), fun h => hJ.x47 (h.resolve_left (by decide)), fun h => hJ.x48 (h.resolve_left (by decide)), fun h => hJ.x49 (h.resolve_left (by decide)), fun h => hJ.x51 (h.resolve_left (by decide)), fun h => hJ.x52 (h.resolve_left (by decide)), fun _ => rfl, fun h => hJ.x54 (h.resolve_left (by decide)), fun h => hJ.x4 (h.resolve_left (by decide)), fun h => hJ.x5 (h.resolve_left (by decide)), fun h => .inr (hJ.c4 (h.resolve_left (by decide))), fun h => .inr (hJ.c9 (h.resolve_left (by decide))), fun h => .inr (hJ.c10 (h.resolve_left (by decide)))⟩⟩⟩
    · rintro on X W ⟨rv, RN, RX, hJ⟩ hn hd
      have h0 := hin (X := X) (k := 51) (by rw [← hds]; decide)
      rw [hJ.x51 (hd 5 (by kernel_rfl))] at h0
      have h1 := hin (X := X) (k := 53) (by rw [← hds]; decide)
      rw [hJ.x53 (hd 7 (by kernel_rfl))] at h1
      refine op_value (v := .slice (subA 3 go gc at2) (gn - at2) (gc - at2)) (w' := W) ?_ ?_
      · generalize (puts A X ds).eval = ρ at h0 h1 ⊢
        have hac2 : at2 ≤ gc := by omega
        obtain ⟨gb, rfl⟩ := hgo
        rw [subA_some]
        go_simp
      · exact ⟨upd X 54 (.slice (subA 3 go gc at2) (gn - at2) (gc - at2)), puts_put _ (by rw [← hds]; decide), ⟨rv, RN, RX, ⟨hJ.low, fun h h2 => hJ.x46 (h.resolve_left (by decide)) (fun h3 => h2 (.inr h3)), fun h h2 => hJ.n46 (h.resolve_left (by decide)) (fun h3 => h2 (.inr h3)), fun h h2 => hJ.l46 (h.resolve_left (by decide)) (fun h3 => h2 (.inr h3)), fun h h2 => hJ.x50 (h.resolve_left (by decide)) (fun h3 => h2 (.inr h3)), fun h h2 => hJ.n50 (h.resolve_left (by decide)) (fun h3 => h2 (.inr h3)), fun h h2 => hJ.l50 (h.resolve_left (by decide)) (fun h3 => h2 (.inr h3)), fun h => hJ.x55 (h.resolve_left (by decide)), fun h => hJ.n55 (h.resolve_left (by decide)), fun h => hJ.l55 (h.resolve_left (by decide)), fun h => hJ.row (h.resolve_left (by decide)), fun h => hJ.sm (h.resolve_left (by decide)), fun h => hJ.x47 (h.resolve_left (by decide)), fun h => hJ.x48 (h.resolve_left (by decide)), fun h => hJ.x49 (h.resolve_left (by decide)), fun h => hJ.x51 (h.resolve_left (by decide)), fun h => hJ.x52 (h.resolve_left (by decide)), fun h => hJ.x53 (h.resolve_left (by decide)), fun _ => rfl, fun h => hJ.x4 (h.resolve_left (by decide)), fun h => hJ.x5 (h.resolve_left (by decide)), fun h => .inr (hJ.c4 (h.resolve_left (by decide))), fun h => .inr (hJ.c9 (h.resolve_left (by decide))), fun h => .inr (hJ.c10 (h.resolve_left (by decide)))⟩⟩⟩
    · rintro on X W ⟨rv, RN, RX, hJ⟩ hn hd
      have hrow0 := hJ.row (hJ.c4 (hd 4 (by kernel_rfl)))
      have hrow := hrow0
      rw [hJ.n50 (hd 4 (by kernel_rfl)) hn, hJ.l50 (hd 4 (by kernel_rfl)) hn] at hrow
      have h0 := hin (X := X) (k := 50) (by rw [← hds]; decide)
      rw [hJ.x50 (hd 4 (by kernel_rfl)) hn] at h0
      have h1 := hin (X := X) (k := 54) (by rw [← hds]; decide)
      rw [hJ.x54 (hd 8 (by kernel_rfl))] at h1
      refine op_appendG Try.underlying28 hi hz0 hz1 hz2 rfl (by decide) (by decide) rfl W0.heap.size rv (0 + at_) ([] ++ s1) h0 hrow h1 (s2) hl2 (HS2 W hJ.low) ho2 (by omega) hJ.low.size ?_
      intro v' W' hown hgrow hat
      have f : Fr W W' (fun k => rv.ownBlock = some k) := Fr.grown hgrow (fun k hk => hk)
      have hsm : v'.ownBlock ≠ none := by
        rcases hat with h5 | h5
        · rw [h5]; exact hJ.sm (hJ.c4 (hd 4 (by kernel_rfl)))
        · rw [h5]; simp
      exact ⟨upd X 55 v', puts_put _ (by rw [← hds]; decide), ⟨v', 0 + at_ + (gn - at2), [] ++ s1 ++ s2, ⟨hJ.low.trans (f.below hJ.low.size (fun k hk => (World.ownsRow.lt hrow0 k hk).1)), fun _ h2 => absurd (.inr (hd 4 (by kernel_rfl))) h2, fun _ h2 => absurd (.inr (hd 4 (by kernel_rfl))) h2, fun _ h2 => absurd (.inr (hd 4 (by kernel_rfl))) h2, fun _ h => absurd (.inl rfl) h, fun _ h => absurd (.inl rfl) h, fun _ h => absurd (.inl rfl) h, fun _ => rfl, fun _ => rfl, fun _ => rfl, fun _ => hown, fun _ => hsm, fun h => hJ.x47 (h.resolve_left (by decide)), fun h => hJ.x48 (h.resolve_left (by decide)), fun h => hJ.x49 (h.resolve_left (by decide)), fun h => hJ.x51 (h.resolve_left (by decide)), fun h => hJ.x52 (h.resolve_left (by decide)), fun h => hJ.x53 (h.resolve_left (by decide)), fun h => hJ.x54 (h.resolve_left (by decide)), fun h => absurd (hJ.c10 (h.resolve_left (by decide))) hn, fun h => hJ.x5 (h.resolve_left (by decide)), fun h => .inr (hJ.c4 (h.resolve_left (by decide))), fun _ => .inr (hd 4 (by kernel_rfl)), fun h => .inr (hJ.c10 (h.resolve_left (by decide)))⟩⟩⟩
    · rintro on X W ⟨rv, RN, RX, hJ⟩ hn hd
      have h0 := hin (X := X) (k := 55) (by rw [← hds]; decide)
      rw [hJ.x55 (hd 9 (by kernel_rfl))] at h0
      refine op_value (v := rv) (w' := W) ?_ ?_
      · generalize (puts A X ds).eval = ρ at h0 ⊢
        go_simp
      · exact ⟨upd X 4 rv, puts_put _ (by rw [← hds]; decide), ⟨rv, RN, RX, ⟨hJ.low, fun h h2 => hJ.x46 (h.resolve_left (by decide)) (fun h3 => h2 (.inr h3)), fun h h2 => hJ.n46 (h.resolve_left (by decide)) (fun h3 => h2 (.inr h3)), fun h h2 => hJ.l46 (h.resolve_left (by decide)) (fun h3 => h2 (.inr h3)), fun h h2 => hJ.x50 (h.resolve_left (by decide)) (fun h3 => h2 (.inr h3)), fun h h2 => hJ.n50 (h.resolve_left (by decide)) (fun h3 => h2 (.inr h3)), fun h h2 => hJ.l50 (h.resolve_left (by decide)) (fun h3 => h2 (.inr h3)), fun h => hJ.x55 (h.resolve_left (by decide)), fun h => hJ.n55 (h.resolve_left (by decide)), fun h => hJ.l55 (h.resolve_left (by decide)), fun h => hJ.row (h.resolve_left (by decide)), fun h => hJ.sm (h.resolve_left (by decide)), fun h => hJ.x47 (h.resolve_left (by decide)), fun h => hJ.x48 (h.resolve_left (by decide)), fun h => hJ.x49 (h.resolve_left (by decide)), fun h => hJ.x51 (h.resolve_left (by decide)), fun h => hJ.x52 (h.resolve_left (by decide)), fun h => hJ.x53 (h.resolve_left (by decide)), fun h => hJ.x54 (h.resolve_left (by decide)), fun _ => rfl, fun h => hJ.x5 (h.resolve_left (by decide)), fun h => .inr (hJ.c4 (h.resolve_left (by decide))), fun h => .inr (hJ.c9 (h.resolve_left (by decide))), fun _ => .inr (hd 9 (by kernel_rfl))⟩⟩⟩
    · rintro on X W ⟨rv, RN, RX, hJ⟩ hn hd
      have h0 : (puts A X ds).eval (.const (.bool true)) = (.bool true) := rfl
      refine op_value (v := .bool true) (w' := W) ?_ ?_
      · generalize (puts A X ds).eval = ρ at h0 ⊢
        go_simp
      · exact ⟨upd X 5 (.bool true), puts_put _ (by rw [← hds]; decide), ⟨rv, RN, RX, ⟨hJ.low, fun h h2 => hJ.x46 (h.resolve_left (by decide)) (fun h3 => h2 (.inr h3)), fun h h2 => hJ.n46 (h.resolve_left (by decide)) (fun h3 => h2 (.inr h3)), fun h h2 => hJ.l46 (h.resolve_left (by decide)) (fun h3 => h2 (.inr h3)), fun h h2 => hJ.x50 (h.resolve_left (by decide)) (fun h3 => h2 (.inr h3)), fun h h2 => hJ.n50 (h.resolve_left (by decide)) (fun h3 => h2 (.inr h3)), fun h h2 => hJ.l50 (h.resolve_left (by decide)) (fun h3 => h2 (.inr h3)), fun h => hJ.x55 (h.resolve_left (by decide)), fun h => hJ.n55 (h.resolve_left (by decide)), fun h => hJ.l55 (h.resolve_left (by decide)), fun h => hJ.row (h.resolve_left (by decide)), fun h => hJ.sm (h.resolve_left (by decide)), fun h => hJ.x47 (h.resolve_left (by decide)), fun h => hJ.x48 (h.resolve_left (by decide)), fun h => hJ.x49 (h.resolve_left (by decide)), fun h => hJ.x51 (h.resolve_left (by decide)), fun h => hJ.x52 (h.resolve_left (by decide)), fun h => hJ.x53 (h.resolve_left (by decide)), fun h => hJ.x54 (h.resolve_left (by decide)), fun h => hJ.x4 (h.resolve_left (by decide)), fun _ => rfl, fun h => .inr (hJ.c4 (h.resolve_left (by decide))), fun h => .inr (hJ.c9 (h.resolve_left (by decide))), fun h => .inr (hJ.c10 (h.resolve_left (by decide)))⟩⟩⟩

structure Jone_r13 (W0 : World) (go : Option Addr) (gn gc at_ at2 bv : Nat) (s1 s2 : List Value) (on : Nat → Prop) (X : Nat → Value) (W : World) (rv : Value) (RN : Nat) (RX : List Value) : Prop where
  low : Below W0.heap.size W0 W
  x74 : on 0 → ¬ on 5 → X 74 = rv
  n74 : on 0 → ¬ on 5 → RN = 0
  l74 : on 0 → ¬ on 5 → RX = []
  x79 : on 5 → ¬ on 11 → X 79 = rv
  n79 : on 5 → ¬ on 11 → RN = 0 + at_
  l79 : on 5 → ¬ on 11 → RX = [] ++ s1
  x85 : on 11 → X 85 = rv
  n85 : on 11 → RN = 0 + at_ + (gn - at2)
  l85 : on 11 → RX = [] ++ s1 ++ s2
  row : on 0 → W.ownsRow W0.heap.size 74 2 rv RN RX
  sm : on 0 → rv.ownBlock ≠ none
  x75 : on 1 → X 75 = .pointer (some ⟨bv, 2, none⟩)
  x76 : on 2 → X 76 = .slice go gn gc
  x77 : on 3 → X 77 = .int .i64 at_
  x78 : on 4 → X 78 = .slice go at_ gc
  x80 : on 6 → X 80 = .pointer (some ⟨bv, 2, none⟩)
  x81 : on 7 → X 81 = .slice go gn gc
  x82 : on 8 → X 82 = .int .i64 at_
  x83 : on 9 → X 83 = .int .i64 at2
  x84 : on 10 → X 84 = .slice (subA 2 go gc at2) (gn - at2) (gc - at2)
  x86 : on 12 → X 86 = .pointer (some ⟨bv, 2, none⟩)
  c5 : on 5 → on 0
  c11 : on 11 → on 5
set_option maxRecDepth 100000 in
set_option maxHeartbeats 4000000 in
theorem one_r13 {W0 : World} {A : Act} {go : Option Addr} {gn gc at_ at2 bv : Nat} {s1 s2 : List Value} {K : Act → World → Prop} {Q' : Exit → Act → World → Prop} (hsz : A.tmps.size = 122)
    (hA8 : A.eval (.tmp 8) = .pointer (some ⟨bv, 0, none⟩)) (hA9 : A.eval (.tmp 9) = .int .i64 at_) (HZ0 : ∀ W, Below W0.heap.size W0 W → W.cell? ⟨bv, 2, none⟩ = some (.slice go gn gc)) (HZ1 : ∀ W, Below W0.heap.size W0 W → W.frozen? ⟨bv, 2, none⟩ = false) (hgo : ∃ gb, go = some ⟨gb, 0, none⟩) (h2 : (at_ : Int) + 1 = (at2 : Int)) (hat2 : at2 ≤ gn) (hgc : gn ≤ gc) (hgn : gn ≤ 1000000) (hl1 : s1.length = (at_) * 2) (HS1 : ∀ W, Below W0.heap.size W0 W → SrcF W (go) (at_) s1) (ho1 : ∀ u ∈ s1, u.oneCell' = true) (hl2 : s2.length = (gn - at2) * 2) (HS2 : ∀ W, Below W0.heap.size W0 W → SrcF W (subA 2 go gc at2) (gn - at2) s2) (ho2 : ∀ u ∈ s2, u.oneCell' = true)
    (HK : ∀ X W rv, W.ownsRow W0.heap.size 74 2 rv (0 + at_ + (gn - at2)) ([] ++ s1 ++ s2) → Below W0.heap.size W0 W → K (puts A X [74, 75, 76, 77, 78, 79, 80, 81, 82, 83, 84, 85, 86]) (W.setCell ⟨bv, 2, none⟩ rv)) :
    Code.wp Try.prog ((Try.f47.body.bind (regionJ 13)).getD .skip) (Exit.then K Q') A W0 := by
  obtain ⟨i0, hi, hz0, hz1, hz2⟩ := info_parts infoREdge
  have hin : ∀ {X : Nat → Value} {k : Nat}, k ∈ [74, 75, 76, 77, 78, 79, 80, 81, 82, 83, 84, 85, 86] → (puts A X [74, 75, 76, 77, 78, 79, 80, 81, 82, 83, 84, 85, 86]).eval (.tmp k) = X k := fun hk => eval_in hk (by
    rw [hsz]; revert hk; simp only [List.mem_cons, List.not_mem_nil, or_false]; omega)
  have hout : ∀ {X : Nat → Value} {k : Nat}, k ∉ [74, 75, 76, 77, 78, 79, 80, 81, 82, 83, 84, 85, 86] → (puts A X [74, 75, 76, 77, 78, 79, 80, 81, 82, 83, 84, 85, 86]).eval (.tmp k) = A.eval (.tmp k) := fun hk => eval_out hk
  generalize hds : [74, 75, 76, 77, 78, 79, 80, 81, 82, 83, 84, 85, 86] = ds at *
  conv => arg 2; whnf
  refine wp_region_J ds (fun on X W => (∃ rv RN RX, ¬ on 13 ∧ Jone_r13 W0 go gn gc at_ at2 bv s1 s2 on X W rv RN RX) ∨ ((on 13 ∧ ∃ W1 rv, W1.ownsRow W0.heap.size 74 2 rv (0 + at_ + (gn - at2)) ([] ++ s1 ++ s2) ∧ Below W0.heap.size W0 W1 ∧ W = W1.setCell ⟨bv, 2, none⟩ rv) ∧ ∀ k, k < 13 → on k)) (by kernel_rfl) (by kernel_rfl) ?start ?steps ?done
  case start =>
    refine .inl ⟨.bool false, 0, [], fun h => h, ?_⟩
    constructor
    · exact ⟨rfl, rfl, rfl, Nat.le_refl _, fun _ _ => rfl⟩
    all_goals first | exact fun h => h.elim
  case done =>
    rintro on X W (⟨rv, RN, RX, hno, hJ⟩ | ⟨⟨_, W1, rv, hrow, hlow, rfl⟩, _⟩) hall
    · exact absurd (hall 13 (by decide)) hno
    · exact HK X W1 rv hrow hlow
  case steps =>
    refine ⟨?_, ?_, ?_, ?_, ?_, ?_, ?_, ?_, ?_, ?_, ?_, ?_, ?_, ?_, trivial⟩
    · rintro on X W (⟨rv, RN, RX, hno, hJ⟩ | ⟨hfin, hall⟩) hn hd
      rotate_left
      · exact absurd (hall 0 (by decide)) hn
      have hb : Below W.heap.size W (W.alloc (.cells #[] 74)) := one_newU _ _
      refine op_value (v := .slice (some ⟨W.heap.size, 0, none⟩) 0 0) (w' := W.alloc (.cells #[] 74)) ?_ ?_
      · generalize (puts A X ds).eval = ρ
        go_simp
      · exact ⟨upd X 74 (.slice (some ⟨W.heap.size, 0, none⟩) 0 0), puts_put _ (by rw [← hds]; decide), .inl ⟨.slice (some ⟨W.heap.size, 0, none⟩) 0 0, 0, [], fun h => hno (h.resolve_left (by decide)), ⟨hJ.low.trans (hb.mono hJ.low.size), fun _ _ => rfl, fun _ _ => rfl, fun _ _ => rfl, fun h _ => absurd (hJ.c5 (h.resolve_left (by decide))) hn, fun h _ => absurd (hJ.c5 (h.resolve_left (by decide))) hn, fun h _ => absurd (hJ.c5 (h.resolve_left (by decide))) hn, fun h => absurd (hJ.c5 (hJ.c11 (h.resolve_left (by decide)))) hn, fun h => absurd (hJ.c5 (hJ.c11 (h.resolve_left (by decide)))) hn, fun h => absurd (hJ.c5 (hJ.c11 (h.resolve_left (by decide)))) hn, fun _ => own_empty hJ.low.size, fun _ e0 => (by cases e0), fun h => hJ.x75 (h.resolve_left (by decide)), fun h => hJ.x76 (h.resolve_left (by decide)), fun h => hJ.x77 (h.resolve_left (by decide)), fun h => hJ.x78 (h.resolve_left (by decide)), fun h => hJ.x80 (h.resolve_left (by decide)), fun h => hJ.x81 (h.resolve_left (by decide)), fun h => hJ.x82 (h.resolve_left (by decide)), fun h => hJ.x83 (h.resolve_left (by decide)), fun h => hJ.x84 (h.resolve_left (by decide)), fun h => hJ.x86 (h.resolve_left (by decide)), fun h => .inr (hJ.c5 (h.resolve_left (by decide))), fun h => .inr (hJ.c11 (h.resolve_left (by decide)))⟩⟩⟩
    · rintro on X W (⟨rv, RN, RX, hno, hJ⟩ | ⟨hfin, hall⟩) hn hd
      rotate_left
      · exact absurd (hall 1 (by decide)) hn
      have h0 := hout (X := X) (k := 8) (by rw [← hds]; decide)
      rw [hA8] at h0
      refine op_value (v := .pointer (some ⟨bv, 2, none⟩)) (w' := W) ?_ ?_
      · generalize (puts A X ds).eval = ρ at h0 ⊢
        go_simp
      · exact ⟨upd X 75 (.pointer (some ⟨bv, 2, none⟩)), puts_put _ (by rw [← hds]; decide), .inl ⟨rv, RN, RX, fun h => hno (h.resolve_left (by decide)), ⟨hJ.low, fun h h2 => hJ.x74 (h.resolve_left (by decide)) (fun h3 => h2 (.inr h3)), fun h h2 => hJ.n74 (h.resolve_left (by decide)) (fun h3 => h2 (.inr h3)), fun h h2 => hJ.l74 (h.resolve_left (by decide)) (fun h3 => h2 (.inr h3)), fun h h2 => hJ.x79 (h.resolve_left (by decide)) (fun h3 => h2 (.inr h3)), fun h h2 => hJ.n79 (h.resolve_left (by decide)) (fun h3 => h2 (.inr h3)), fun h h2 => hJ.l79 (h.resolve_left (by decide)) (fun h3 => h2 (.inr h3)), fun h => hJ.x85 (h.resolve_left (by decide)), fun h => hJ.n85 (h.resolve_left (by decide)), fun h => hJ.l85 (h.resolve_left (by decide)), fun h => hJ.row (h.resolve_left (by decide)), fun h => hJ.sm (h.resolve_left (by decide)), fun _ => rfl, fun h => hJ.x76 (h.resolve_left (by decide)), fun h => hJ.x77 (h.resolve_left (by decide)), fun h => hJ.x78 (h.resolve_left (by decide)), fun h => hJ.x80 (h.resolve_left (by decide)), fun h => hJ.x81 (h.resolve_left (by decide)), fun h => hJ.x82 (h.resolve_left (by decide)), fun h => hJ.x83 (h.resolve_left (by decide)), fun h => hJ.x84 (h.resolve_left (by decide)), fun h => hJ.x86 (h.resolve_left (by decide)), fun h => .inr (hJ.c5 (h.resolve_left (by decide))), fun h => .inr (hJ.c11 (h.resolve_left (by decide)))⟩⟩⟩
    · rintro on X W (⟨rv, RN, RX, hno, hJ⟩ | ⟨hfin, hall⟩) hn hd
      rotate_left
      · exact absurd (hall 2 (by decide)) hn
      have h0 := hin (X := X) (k := 75) (by rw [← hds]; decide)
      rw [hJ.x75 (hd 1 (by kernel_rfl))] at h0
      refine op_value (v := .slice go gn gc) (w' := W) ?_ ?_
      · generalize (puts A X ds).eval = ρ at h0 ⊢
        have hc := HZ0 W hJ.low
        go_simp
      · exact ⟨upd X 76 (.slice go gn gc), puts_put _ (by rw [← hds]; decide), .inl ⟨rv, RN, RX, fun h => hno (h.resolve_left (by decide)), ⟨hJ.low, fun h h2 => hJ.x74 (h.resolve_left (by decide)) (fun h3 => h2 (.inr h3)), fun h h2 => hJ.n74 (h.resolve_left (by decide)) (fun h3 => h2 (.inr h3)), fun h h2 => hJ.l74 (h.resolve_left (by decide)) (fun h3 => h2 (.inr h3)), fun h h2 => hJ.x79 (h.resolve_left (by decide)) (fun h3 => h2 (.inr h3)), fun h h2 => hJ.n79 (h.resolve_left (by decide)) (fun h3 => h2 (.inr h3)), fun h h2 => hJ.l79 (h.resolve_left (by decide)) (fun h3 => h2 (.inr h3)), fun h => hJ.x85 (h.resolve_left (by decide)), fun h => hJ.n85 (h.resolve_left (by decide)), fun h => hJ.l85 (h.resolve_left (by decide)), fun h => hJ.row (h.resolve_left (by decide)), fun h => hJ.sm (h.resolve_left (by decide)), fun h => hJ.x75 (h.resolve_left (by decide)), fun _ => rfl, fun h => hJ.x77 (h.resolve_left (by decide)), fun h => hJ.x78 (h.resolve_left (by decide)), fun h => hJ.x80 (h.resolve_left (by decide)), fun h => hJ.x81 (h.resolve_left (by decide)), fun h => hJ.x82 (h.resolve_left (by decide)), fun h => hJ.x83 (h.resolve_left (by decide)), fun h => hJ.x84 (h.resolve_left (by decide)), fun h => hJ.x86 (h.resolve_left (by decide)), fun h => .inr (hJ.c5 (h.resolve_left (by decide))), fun h => .inr (hJ.c11 (h.resolve_left (by decide)))⟩⟩⟩
    · rintro on X W (⟨rv, RN, RX, hno, hJ⟩ | ⟨hfin, hall⟩) hn hd
      rotate_left
      · exact absurd (hall 3 (by decide)) hn
      have h0 := hout (X := X) (k := 9) (by rw [← hds]; decide)
      rw [hA9] at h0
      refine op_value (v := .int .i64 at_) (w' := W) ?_ ?_
      · generalize (puts A X ds).eval = ρ at h0 ⊢
        go_simp
      · exact ⟨upd X 77 (.int .i64 at_), puts_put _ (by rw [← hds]; decide), .inl ⟨rv, RN, RX, fun h => hno (h.resolve_left (by decide)), ⟨hJ.low, fun h h2 => hJ.x74 (h.resolve_left (by decide)) (fun h3 => h2 (.inr h3)), fun h h2 => hJ.n74 (h.resolve_left (by decide)) (fun h3 => h2 (.inr h3)), fun h h2 => hJ.l74 (h.resolve_left (by decide)) (fun h3 => h2 (.inr h3)), fun h h2 => hJ.x79 (h.resolve_left (by decide)) (fun h3 => h2 (.inr h3)), fun h h2 => hJ.n79 (h.resolve_left (by decide)) (fun h3 => h2 (.inr h3)), fun h h2 => hJ.l79 (h.resolve_left (by decide)) (fun h3 => h2 (.inr h3)), fun h => hJ.x85 (h.resolve_left (by decide)), fun h => hJ.n85 (h.resolve_left (by decide)), fun h => hJ.l85 (h.resolve_left (by decide)), fun h => hJ.row (h.resolve_left (by decide)), fun h => hJ.sm (h.resolve_left (by decide)), fun h => hJ.x75 (h.resolve_left (by decide)), fun h => hJ.x76 (h.resolve_left (by decide)), fun _ => rfl, fun h => hJ.x78 (h.resolve_left (by decide)), fun h => hJ.x80 (h.resolve_left (by decide)), fun h => hJ.x81 (h.resolve_left (by decide)), fun h => hJ.x82 (h.resolve_left (by decide)), fun h => hJ.x83 (h.resolve_left (by decide)), fun h => hJ.x84 (h.resolve_left (by decide)), fun h => hJ.x86 (h.resolve_left (by decide)), fun h => .inr (hJ.c5 (h.resolve_left (by decide))), fun h => .inr (hJ.c11 (h.resolve_left (by decide)))⟩⟩⟩
    · rintro on X W (⟨rv, RN, RX, hno, hJ⟩ | ⟨hfin, hall⟩) hn hd
      rotate_left
      · exact absurd (hall 4 (by decide)) hn
      have h0 := hin (X := X) (k := 76) (by rw [← hds]; decide)
      rw [hJ.x76 (hd 2 (by kernel_rfl))] at h0
      have h1 := hin (X := X) (k := 77) (by rw [← hds]; decide)
      rw [hJ.x77 (hd 3 (by kernel_rfl))] at h1
      refine op_value (v := .slice go at_ gc) (w' := W) ?_ ?_
      · generalize (puts A X ds).eval = ρ at h0 h1 ⊢
        have hac : at_ ≤ gc := by omega
        obtain ⟨gb, rfl⟩ := hgo
        go_simp
      · exact ⟨upd X 78 (.slice go at_ gc), puts_put _ (by rw [← hds]; decide), .inl ⟨rv, RN, RX, fun h => hno (h.resolve_left (by decide)), ⟨hJ.low, fun h h2 => hJ.x74 (h.resolve_left (by decide)) (fun h3 => h2 (.inr h3)), fun h h2 => hJ.n74 (h.resolve_left (by decide)) (fun h3 => h2 (.inr h3)), fun h h2 => hJ.l74 (h.resolve_left (by decide)) (fun h3 => h2 (.inr h3)), fun h h2 => hJ.x79 (h.resolve_left (by decide)) (fun h3 => h2 (.inr h3)), fun h h2 => hJ.n79 (h.resolve_left (by decide)) (fun h3 => h2 (.inr h3)), fun h h2 => hJ.l79 (h.resolve_left (by decide)) (fun h3 => h2 (.inr h3)), fun h => hJ.x85 (h.resolve_left (by decide)), fun h => hJ.n85 (h.resolve_left (by decide)), fun h => hJ.l85 (h.resolve_left (by decide)), fun h => hJ.row (h.resolve_left (by decide)), fun h => hJ.sm (h.resolve_left (by decide)), fun h => hJ.x75 (h.resolve_left (by decide)), fun h => hJ.x76 (h.resolve_left (by decide)), fun h => hJ.x77 (h.resolve_left (by decide)), fun _ => rfl, fun h => hJ.x80 (h.resolve_left (by decide)), fun h => hJ.x81 (h.resolve_left (by decide)), fun h => hJ.x82 (h.resolve_left (by decide)), fun h => hJ.x83 (h.resolve_left (by decide)), fun h => hJ.x84 (h.resolve_left (by decide)), fun h => hJ.x86 (h.resolve_left (by decide)), fun h => .inr (hJ.c5 (h.resolve_left (by decide))), fun h => .inr (hJ.c11 (h.resolve_left (by decide)))⟩⟩⟩
    · rintro on X W (⟨rv, RN, RX, hno, hJ⟩ | ⟨hfin, hall⟩) hn hd
      rotate_left
      · exact absurd (hall 5 (by decide)) hn
      have hrow0 := hJ.row (hd 0 (by kernel_rfl))
      have hrow := hrow0
      rw [hJ.n74 (hd 0 (by kernel_rfl)) hn, hJ.l74 (hd 0 (by kernel_rfl)) hn] at hrow
      have h0 := hin (X := X) (k := 74) (by rw [← hds]; decide)
      rw [hJ.x74 (hd 0 (by kernel_rfl)) hn] at h0
      have h1 := hin (X := X) (k := 78) (by rw [← hds]; decide)
      rw [hJ.x78 (hd 4 (by kernel_rfl))] at h1
      refine op_appendG Try.underlying68 hi hz0 hz1 hz2 rfl (by decide) (by decide) rfl W0.heap.size rv (0) ([]) h0 hrow h1 (s1) hl1 (HS1 W hJ.low) ho1 (by omega) hJ.low.size ?_
      intro v' W' hown hgrow hat
      have f : Fr W W' (fun k => rv.ownBlock = some k) := Fr.grown hgrow (fun k hk => hk)
      have hsm : v'.ownBlock ≠ none := by
        rcases hat with h5 | h5
        · rw [h5]; exact hJ.sm (hd 0 (by kernel_rfl))
        · rw [h5]; simp
      exact ⟨upd X 79 v', puts_put _ (by rw [← hds]; decide), .inl ⟨v', 0 + at_, [] ++ s1, fun h => hno (h.resolve_left (by decide)), ⟨hJ.low.trans (f.below hJ.low.size (fun k hk => (World.ownsRow.lt hrow0 k hk).1)), fun _ h => absurd (.inl rfl) h, fun _ h => absurd (.inl rfl) h, fun _ h => absurd (.inl rfl) h, fun _ _ => rfl, fun _ _ => rfl, fun _ _ => rfl, fun h => absurd (hJ.c11 (h.resolve_left (by decide))) hn, fun h => absurd (hJ.c11 (h.resolve_left (by decide))) hn, fun h => absurd (hJ.c11 (h.resolve_left (by decide))) hn, fun _ => hown, fun _ => hsm, fun h => hJ.x75 (h.resolve_left (by decide)), fun h => hJ.x76 (h.resolve_left (by decide)), fun h => hJ.x77 (h.resolve_left (by decide)), fun h => hJ.x78 (h.resolve_left (by decide)), fun h => hJ.x80 (h.resolve_left (by decide)), fun h => hJ.x81 (h.resolve_left (by decide)), fun h => hJ.x82 (h.resolve_left (by decide)), fun h => hJ.x83 (h.resolve_left (by decide)), fun h => hJ.x84 (h.resolve_left (by decide)), fun h => hJ.x86 (h.resolve_left (by decide)), fun _ => .inr (hd 0 (by kernel_rfl)), fun h => .inr (hJ.c11 (h.resolve_left (by decide)))⟩⟩⟩
    · rintro on X W (⟨rv, RN, RX, hno, hJ⟩ | ⟨hfin, hall⟩) hn hd
      rotate_left
      · exact absurd (hall 6 (by decide)) hn
      have h0 := hout (X := X) (k := 8) (by rw [← hds]; decide)
      rw [hA8] at h0
      refine op_value (v := .pointer (some ⟨bv, 2, none⟩)) (w' := W) ?_ ?_
      · generalize (puts A X ds).eval = ρ at h0 ⊢
        go_simp
      · exact ⟨upd X 80 (.pointer (some ⟨bv, 2, none⟩)), puts_put _ (by rw [← hds]; decide), .inl ⟨rv, RN, RX, fun h => hno (h.resolve_left (by decide)), ⟨hJ.low, fun h h2 => hJ.x74 (h.resolve_left (by decide)) (fun h3 => h2 (.inr h3)), fun h h2 => hJ.n74 (h.resolve_left (by decide)) (fun h3 => h2 (.inr h3)), fun h h2 => hJ.l74 (h.resolve_left (by decide)) (fun h3 => h2 (.inr h3)), fun h h2 => hJ.x79 (h.resolve_left (by decide)) (fun h3 => h2 (.inr h3)), fun h h2 => hJ.n79 (h.resolve_left (by decide)) (fun h3 => h2 (.inr h3)), fun h h2 => hJ.l79 (h.resolve_left (by decide)) (fun h3 => h2 (.inr h3)), fun h => hJ.x85 (h.resolve_left (by decide)), fun h => hJ.n85 (h.resolve_left (by decide)), fun h => hJ.l85 (h.resolve_left (by decide)), fun h => hJ.row (h.resolve_left (by decide)), fun h => hJ.sm (h.resolve_left (by decide)), fun h => hJ.x75 (h.resolve_left (by decide)), fun h => hJ.x76 (h.resolve_left (by decide)), fun h => hJ.x77 (h.resolve_left (by decide)), fun h => hJ.x78 (h.resolve_left (by decide)), fun _ => rfl, fun h => hJ.x81 (h.resolve_left (by decide)), fun h => hJ.x82 (h.resolve_left (by decide)), fun h => hJ.x83 (h.resolve_left (by decide)), fun h => hJ.x84 (h.resolve_left (by decide)), fun h => hJ.x86 (h.resolve_left (by decide)), fun h => .inr (hJ.c5 (h.resolve_left (by decide))), fun h => .inr (hJ.c11 (h.resolve_left (by decide)))⟩⟩⟩
    · rintro on X W (⟨rv, RN, RX, hno, hJ⟩ | ⟨hfin, hall⟩) hn hd
      rotate_left
      · exact absurd (hall 7 (by decide)) hn
      have h0 := hin (X := X) (k := 80) (by rw [← hds]; decide)
      rw [hJ.x80 (hd 6 (by kernel_rfl))] at h0
      refine op_value (v := .slice go gn gc) (w' := W) ?_ ?_
      · generalize (puts A X ds).eval = ρ at h0 ⊢
        have hc := HZ0 W hJ.low
        go_simp
      · exact ⟨upd X 81 (.slice go gn gc), puts_put _ (by rw [← hds]; decide), .inl ⟨rv, RN, RX, fun h => hno (h.resolve_left (by decide)), ⟨hJ.low, fun h h2 => hJ.x74 (h.resolve_left (by decide)) (fun h3 => h2 (.inr h3)), fun h h2 => hJ.n74 (h.resolve_left (by decide)) (fun h3 => h2 (.inr h3)), fun h h2 => hJ.l74 (h.resolve_left (by decide)) (fun h3 => h2 (.inr h3)), fun h h2 => hJ.x79 (h.resolve_left (by decide)) (fun h3 => h2 (.inr h3)), fun h h2 => hJ.n79 (h.resolve_left (by decide)) (fun h3 => h2 (.inr h3)), fun h h2 => hJ.l79 (h.resolve_left (by decide)) (fun h3 => h2 (.inr h3)), fun h => hJ.x85 (h.resolve_left (by decide)), fun h => hJ.n85 (h.resolve_left (by decide)), fun h => hJ.l85 (h.resolve_left (by decide)), fun h => hJ.row (h.resolve_left (by decide)), fun h => hJ.sm (h.resolve_left (by decide)), fun h => hJ.x75 (h.resolve_left (by decide)), fun h => hJ.x76 (h.resolve_left (by decide)), fun h => hJ.x77 (h.resolve_left (by decide)), fun h => hJ.x78 (h.resolve_left (by decide)), fun h => hJ.x80 (h.resolve_left (by decide)), fun _ => rfl, fun h => hJ.x82 (h.resolve_left (by decide)), fun h => hJ.x83 (h.resolve_left (by decide)), fun h => hJ.x84 (h.resolve_left (by decide)), fun h => hJ.x86 (h.resolve_left (by decide)), fun h => .inr (hJ.c5 (h.resolve_left (by decide))), fun h => .inr (hJ.c11 (h.resolve_left (by decide)))⟩⟩⟩
    · rintro on X W (⟨rv, RN, RX, hno, hJ⟩ | ⟨hfin, hall⟩) hn hd
      rotate_left
      · exact absurd (hall 8 (by decide)) hn
      have h0 := hout (X := X) (k := 9) (by rw [← hds]; decide)
      rw [hA9] at h0
      refine op_value (v := .int .i64 at_) (w' := W) ?_ ?_
      · generalize (puts A X ds).eval = ρ at h0 ⊢
        go_simp
      · exact ⟨upd X 82 (.int .i64 at_), puts_put _ (by rw [← hds]; decide), .inl ⟨rv, RN, RX, fun h => hno (h.resolve_left (by decide)), ⟨hJ.low, fun h h2 => hJ.x74 (h.resolve_left (by decide)) (fun h3 => h2 (.inr h3)), fun h h2 => hJ.n74 (h.resolve_left (by decide)) (fun h3 => h2 (.inr h3)), fun h h2 => hJ.l74 (h.resolve_left (by decide)) (fun h3 => h2 (.inr h3)), fun h h2 => hJ.x79 (h.resolve_left (by decide)) (fun h3 => h2 (.inr h3)), fun h h2 => hJ.n79 (h.resolve_left (by decide)) (fun h3 => h2 (.inr h3)), fun h h2 => hJ.l79 (h.resolve_left (by decide)) (fun h3 => h2 (.inr h3)), fun h => hJ.x85 (h.resolve_left (by decide)), fun h => hJ.n85 (h.resolve_left (by decide)), fun h => hJ.l85 (h.resolve_left (by decide)), fun h => hJ.row (h.resolve_left (by decide)), fun h => hJ.sm (h.resolve_left (by decide)), fun h => hJ.x75 (h.resolve_left (by decide)), fun h => hJ.x76 (h.resolve_left (by decide)), fun h => hJ.x77 (h.resolve_left (by decide)), fun h => hJ.x78 (h.resolve_left (by decide)), fun h => hJ.x80 (h.resolve_left (by decide)), fun h => hJ.x81 (h.resolve_left (by decide)), fun _ => rfl, fun h => hJ.x83 (h.resolve_left (by decide)), fun h => hJ.x84 (h.resolve_left (by decide)), fun h => hJ.x86 (h.resolve_left (by decide)), fun h => .inr (hJ.c5 (h.resolve_left (by decide))), fun h => .inr (hJ.c11 (h.resolve_left (by decide)))⟩⟩⟩
    · rintro on X W (⟨rv, RN, RX, hno, hJ⟩ | ⟨hfin, hall⟩) hn hd
      rotate_left
      · exact absurd (hall 9 (by decide)) hn
      have h0 := hin (X := X) (k := 82) (by rw [← hds]; decide)
      rw [hJ.x82 (hd 8 (by kernel_rfl))] at h0
      have h1 : (puts A X ds).eval (.const (.int .i64 1)) = (.int .i64 1) := rfl
      refine op_value (v := .int .i64 at2) (w' := W) ?_ ?_
      · generalize (puts A X ds).eval = ρ at h0 h1 ⊢
        have hw : IntKind.i64.wrap (at2 : Int) = (at2 : Int) := IntWalk.i64_in _ (by omega)
        go_simp
      · exact ⟨upd X 83 (.int .i64 at2), puts_put _ (by rw [← hds]; decide), .inl ⟨rv, RN, RX, fun h => hno (h.resolve_left (by decide)), ⟨hJ.low, fun h h2 => hJ.x74 (h.resolve_left (by decide)) (fun h3 => h2 (.inr h3)), fun h h2 => hJ.n74 (h.resolve_left (by decide)) (fun h3 => h2 (.inr h3)), fun h h2 => hJ.l74 (h.resolve_left (by decide)) (fun h3 => h2 (.inr h3)), fun h h2 => hJ.x79 (h.resolve_left (by decide)) (fun h3 => h2 (.inr h3)), fun h h2 => hJ.n79 (h.resolve_left (by decide)) (fun h3 => h2 (.inr h3)), fun h h2 => hJ.l79 (h.resolve_left (by decide)) (fun h3 => h2 (.inr h3)), fun h => hJ.x85 (h.resolve_left (by decide)), fun h => hJ.n85 (h.resolve_left (by decide)), fun h => hJ.l85 (h.resolve_left (by decide)), fun h => hJ.row (h.resolve_left (by decide)), fun h => hJ.sm (h.resolve_left (by decide)), fun h => hJ.x75 (h.resolve_left (by decide)), fun h => hJ.x76 (h.resolve_left (by decide)), fun h => hJ.x77 (h.resolve_left (by decide)), fun h => hJ.x78 (h.resolve_left (by decide)), fun h => hJ.x80 (h.resolve_left (by decide)), fun h => hJ.x81 (h.resolve_left (by decide)), fun h => hJ.x82 (h.resolve_left (by decide)), fun _ => rfl, fun h => hJ.x84 (h.resolve_left (by decide)), fun h => hJ.x86 (h.resolve_left (by decide)), fun h => .inr (hJ.c5 (h.resolve_left (by decide))), fun h => .inr (hJ.c11 (h.resolve_left (by decide)))⟩⟩⟩
    · rintro on X W (⟨rv, RN, RX, hno, hJ⟩ | ⟨hfin, hall⟩) hn hd
      rotate_left
      · exact absurd (hall 10 (by decide)) hn
      have h0 := hin (X := X) (k := 81) (by rw [← hds]; decide)
      rw [hJ.x81 (hd 7 (by kernel_rfl))] at h0
      have h1 := hin (X := X) (k := 83) (by rw [← hds]; decide)
      rw [hJ.x83 (hd 9 (by kernel_rfl))] at h1
      refine op_value (v := .slice (subA 2 go gc at2) (gn - at2) (gc - at2)) (w' := W) ?_ ?_
      · generalize (puts A X ds).eval = ρ at h0 h1 ⊢
        have hac2 : at2 ≤ gc := by omega
        obtain ⟨gb, rfl⟩ := hgo
        rw [subA_some]
        go_simp
      · exact ⟨upd X 84 (.slice (subA 2 go gc at2) (gn - at2) (gc - at2)), puts_put _ (by rw [← hds]; decide), .inl ⟨rv, RN, RX, fun h => hno (h.resolve_left (by decide)), ⟨hJ.low, fun h h2 => hJ.x74 (h.resolve_left (by decide)) (fun h3 => h2 (.inr h3)), fun h h2 => hJ.n74 (h.resolve_left (by decide)) (fun h3 => h2 (.inr h3)), fun h h2 => hJ.l74 (h.resolve_left (by decide)) (fun h3 => h2 (.inr h3)), fun h h2 => hJ.x79 (h.resolve_left (by decide)) (fun h3 => h2 (.inr h3)), fun h h2 => hJ.n79 (h.resolve_left (by decide)) (fun h3 => h2 (.inr h3)), fun h h2 => hJ.l79 (h.resolve_left (by decide)) (fun h3 => h2 (.inr h3)), fun h => hJ.x85 (h.resolve_left (by decide)), fun h => hJ.n85 (h.resolve_left (by decide)), fun h => hJ.l85 (h.resolve_left (by decide)), fun h => hJ.row (h.resolve_left (by decide)), fun h => hJ.sm (h.resolve_left (by decide)), fun h => hJ.x75 (h.resolve_left (by decide)), fun h => hJ.x76 (h.resolve_left (by decide)), fun h => hJ.x77 (h.resolve_left (by decide)), fun h => hJ.x78 (h.resolve_left (by decide)), fun h => hJ.x80 (h.resolve_left (by decide)), fun h => hJ.x81 (h.resolve_left (by decide)), fun h => hJ.x82 (h.resolve_left (by decide)), fun h => hJ.x83 (h.resolve_left (by decide)), fun _ => rfl, fun h => hJ.x86 (h.resolve_left (by decide)), fun h => .inr (hJ.c5 (h.resolve_left (by decide))), fun h => .inr (hJ.c11 (h.resolve_left (by decide)))⟩⟩⟩
    · rintro on X W (⟨rv, RN, RX, hno, hJ⟩ | ⟨hfin, hall⟩) hn hd
      rotate_left
      · exact absurd (hall 11 (by decide)) hn
      have hrow0 := hJ.row (hJ.c5 (hd 5 (by kernel_rfl)))
      have hrow := hrow0
      rw [hJ.n79 (hd 5 (by kernel_rfl)) hn, hJ.l79 (hd 5 (by kernel_rfl)) hn] at hrow
      have h0 := hin (X := X) (k := 79) (by rw [← hds]; decide)
      rw [hJ.x79 (hd 5 (by kernel_rfl)) hn] at h0
      have h1 := hin (X := X) (k := 84) (by rw [← hds]; decide)
      rw [hJ.x84 (hd 10 (by kernel_rfl))] at h1
      refine op_appendG Try.underlying68 hi hz0 hz1 hz2 rfl (by decide) (by decide) rfl W0.heap.size rv (0 + at_) ([] ++ s1) h0 hrow h1 (s2) hl2 (HS2 W hJ.low) ho2 (by omega) hJ.low.size ?_
      intro v' W' hown hgrow hat
      have f : Fr W W' (fun k => rv.ownBlock = some k) := Fr.grown hgrow (fun k hk => hk)
      have hsm : v'.ownBlock ≠ none := by
        rcases hat with h5 | h5
        · rw [h5]; exact hJ.sm (hJ.c5 (hd 5 (by kernel_rfl)))
        · rw [h5]; simp
      exact ⟨upd X 85 v', puts_put _ (by rw [← hds]; decide), .inl ⟨v', 0 + at_ + (gn - at2), [] ++ s1 ++ s2, fun h => hno (h.resolve_left (by decide)), ⟨hJ.low.trans (f.below hJ.low.size (fun k hk => (World.ownsRow.lt hrow0 k hk).1)), fun _ h2 => absurd (.inr (hd 5 (by kernel_rfl))) h2, fun _ h2 => absurd (.inr (hd 5 (by kernel_rfl))) h2, fun _ h2 => absurd (.inr (hd 5 (by kernel_rfl))) h2, fun _ h => absurd (.inl rfl) h, fun _ h => absurd (.inl rfl) h, fun _ h => absurd (.inl rfl) h, fun _ => rfl, fun _ => rfl, fun _ => rfl, fun _ => hown, fun _ => hsm, fun h => hJ.x75 (h.resolve_left (by decide)), fun h => hJ.x76 (h.resolve_left (by decide)), fun h => hJ.x77 (h.resolve_left (by decide)), fun h => hJ.x78 (h.resolve_left (by decide)), fun h => hJ.x80 (h.resolve_left (by decide)), fun h => hJ.x81 (h.resolve_left (by decide)), fun h => hJ.x82 (h.resolve_left (by decide)), fun h => hJ.x83 (h.resolve_left (by decide)), fun h => hJ.x84 (h.resolve_left (by decide)), fun h => hJ.x86 (h.resolve_left (by decide)), fun h => .inr (hJ.c5 (h.resolve_left (by decide))), fun _ => .inr (hd 5 (by kernel_rfl))⟩⟩⟩
    · rintro on X W (⟨rv, RN, RX, hno, hJ⟩ | ⟨hfin, hall⟩) hn hd
      rotate_left
      · exact absurd (hall 12 (by decide)) hn
      have h0 := hout (X := X) (k := 8) (by rw [← hds]; decide)
      rw [hA8] at h0
      refine op_value (v := .pointer (some ⟨bv, 2, none⟩)) (w' := W) ?_ ?_
      · generalize (puts A X ds).eval = ρ at h0 ⊢
        go_simp
      · exact ⟨upd X 86 (.pointer (some ⟨bv, 2, none⟩)), puts_put _ (by rw [← hds]; decide), .inl ⟨rv, RN, RX, fun h => hno (h.resolve_left (by decide)), ⟨hJ.low, fun h h2 => hJ.x74 (h.resolve_left (by decide)) (fun h3 => h2 (.inr h3)), fun h h2 => hJ.n74 (h.resolve_left (by decide)) (fun h3 => h2 (.inr h3)), fun h h2 => hJ.l74 (h.resolve_left (by decide)) (fun h3 => h2 (.inr h3)), fun h h2 => hJ.x79 (h.resolve_left (by decide)) (fun h3 => h2 (.inr h3)), fun h h2 => hJ.n79 (h.resolve_left (by decide)) (fun h3 => h2 (.inr h3)), fun h h2 => hJ.l79 (h.resolve_left (by decide)) (fun h3 => h2 (.inr h3)), fun h => hJ.x85 (h.resolve_left (by decide)), fun h => hJ.n85 (h.resolve_left (by decide)), fun h => hJ.l85 (h.resolve_left (by decide)), fun h => hJ.row (h.resolve_left (by decide)), fun h => hJ.sm (h.resolve_left (by decide)), fun h => hJ.x75 (h.resolve_left (by decide)), fun h => hJ.x76 (h.resolve_left (by decide)), fun h => hJ.x77 (h.resolve_left (by decide)), fun h => hJ.x78 (h.resolve_left (by decide)), fun h => hJ.x80 (h.resolve_left (by decide)), fun h => hJ.x81 (h.resolve_left (by decide)), fun h => hJ.x82 (h.resolve_left (by decide)), fun h => hJ.x83 (h.resolve_left (by decide)), fun h => hJ.x84 (h.resolve_left (by decide)), fun _ => rfl, fun h => .inr (hJ.c5 (h.resolve_left (by decide))), fun h => .inr (hJ.c11 (h.resolve_left (by decide)))⟩⟩⟩
    · rintro on X W (⟨rv, RN, RX, hno, hJ⟩ | ⟨hfin, hall⟩) hn hd
      rotate_left
      · exact absurd hfin.1 hn
      have h0 := hin (X := X) (k := 86) (by rw [← hds]; decide)
      rw [hJ.x86 (hd 12 (by kernel_rfl))] at h0
      have h1 := hin (X := X) (k := 85) (by rw [← hds]; decide)
      rw [hJ.x85 (hd 11 (by kernel_rfl))] at h1
      have hrow := hJ.row (hJ.c5 (hJ.c11 (hd 11 (by kernel_rfl))))
      rw [hJ.n85 (hd 11 (by kernel_rfl)), hJ.l85 (hd 11 (by kernel_rfl))] at hrow
      have z0 := HZ0 W hJ.low
      have z1 := HZ1 W hJ.low
      obtain ⟨o2, m2, c2, hrv⟩ := own_anyU hrow
      have hall : ∀ k, k < 13 → on k := by
        intro k hk
        have h9 : k = 0 ∨ k = 1 ∨ k = 2 ∨ k = 3 ∨ k = 4 ∨ k = 5 ∨ k = 6 ∨ k = 7 ∨ k = 8 ∨ k = 9 ∨ k = 10 ∨ k = 11 ∨ k = 12 := by omega
        rcases h9 with rfl | rfl | rfl | rfl | rfl | rfl | rfl | rfl | rfl | rfl | rfl | rfl | rfl
        · exact (hd 0 (by kernel_rfl))
        · exact (hd 1 (by kernel_rfl))
        · exact (hd 2 (by kernel_rfl))
        · exact (hd 3 (by kernel_rfl))
        · exact (hd 4 (by kernel_rfl))
        · exact (hd 5 (by kernel_rfl))
        · exact (hd 6 (by kernel_rfl))
        · exact (hd 7 (by kernel_rfl))
        · exact (hd 8 (by kernel_rfl))
        · exact (hd 9 (by kernel_rfl))
        · exact (hd 10 (by kernel_rfl))
        · exact (hd 11 (by kernel_rfl))
        · exact (hd 12 (by kernel_rfl))
      refine op_skip (w' := W.setCell ⟨bv, 2, none⟩ rv) ?_ ?_
      · generalize (puts A X ds).eval = ρ at h0 h1 ⊢
        rw [hrv] at h1 ⊢
        go_simp
      · exact ⟨X, rfl, .inr ⟨⟨.inl rfl, W, rv, hrow, hJ.low, rfl⟩, fun k hk => .inr (hall k hk)⟩⟩

structure Jone_r15 (W0 : World) (go : Option Addr) (gn gc at_ bv bm : Nat) (m : Mu) (s1 s2 : List Value) (on : Nat → Prop) (X : Nat → Value) (W : World) (rv : Value) (RN : Nat) (RX : List Value) (hh : Nat) : Prop where
  low : Below W0.heap.size W0 W
  x94 : on 0 → ¬ on 5 → X 94 = rv
  n94 : on 0 → ¬ on 5 → RN = 0
  l94 : on 0 → ¬ on 5 → RX = []
  x99 : on 5 → ¬ on 12 → X 99 = rv
  n99 : on 5 → ¬ on 12 → RN = 0 + at_
  l99 : on 5 → ¬ on 12 → RX = [] ++ s1
  x106 : on 12 → ¬ on 17 → X 106 = rv
  n106 : on 12 → ¬ on 17 → RN = 0 + at_ + 1
  l106 : on 12 → ¬ on 17 → RX = [] ++ s1 ++ [.int .i64 m.t, .int .i64 m.v]
  x111 : on 17 → X 111 = rv
  n111 : on 17 → RN = 0 + at_ + 1 + (gn - at_)
  l111 : on 17 → RX = [] ++ s1 ++ [.int .i64 m.t, .int .i64 m.v] ++ s2
  row : on 0 → W.ownsRow W0.heap.size 74 2 rv RN RX
  sm : on 0 → rv.ownBlock ≠ none
  x95 : on 1 → X 95 = .pointer (some ⟨bv, 2, none⟩)
  x96 : on 2 → X 96 = .slice go gn gc
  x97 : on 3 → X 97 = .int .i64 at_
  x98 : on 4 → X 98 = .slice go at_ gc
  x100 : on 6 → X 100 = .pointer (some ⟨bm, 2, none⟩)
  x101 : on 7 → X 101 = .int .i64 m.t
  x102 : on 8 → X 102 = .pointer (some ⟨bm, 3, none⟩)
  x103 : on 9 → X 103 = .int .i64 m.v
  x104 : on 10 → X 104 = .agg #[.int .i64 m.t, .int .i64 m.v]
  x105 : on 11 → X 105 = .slice (some ⟨hh, 0, none⟩) 1 1
  new : on 11 → W.heap[hh]? = some (.cells #[.int .i64 m.t, .int .i64 m.v] 74 (0, 0))
  dn : on 0 → on 11 → rv.ownBlock ≠ some hh
  x107 : on 13 → X 107 = .pointer (some ⟨bv, 2, none⟩)
  x108 : on 14 → X 108 = .slice go gn gc
  x109 : on 15 → X 109 = .int .i64 at_
  x110 : on 16 → X 110 = .slice (subA 2 go gc at_) (gn - at_) (gc - at_)
  x112 : on 18 → X 112 = .pointer (some ⟨bv, 2, none⟩)
  c5 : on 5 → on 0
  c12 : on 12 → on 5
  c17 : on 17 → on 12
set_option maxRecDepth 100000 in
set_option maxHeartbeats 4000000 in
theorem one_r15 {W0 : World} {A : Act} {go : Option Addr} {gn gc at_ bv bm : Nat} {m : Mu} {s1 s2 : List Value} {K : Act → World → Prop} {Q' : Exit → Act → World → Prop} (hsz : A.tmps.size = 122)
    (hA8 : A.eval (.tmp 8) = .pointer (some ⟨bv, 0, none⟩)) (hA9 : A.eval (.tmp 9) = .int .i64 at_) (hA3 : A.eval (.tmp 3) = .pointer (some ⟨bm, 0, none⟩)) (HZ0 : ∀ W, Below W0.heap.size W0 W → W.cell? ⟨bv, 2, none⟩ = some (.slice go gn gc)) (HZ1 : ∀ W, Below W0.heap.size W0 W → W.frozen? ⟨bv, 2, none⟩ = false) (hgo : (go = none ∧ gn = 0 ∧ gc = 0 ∧ at_ = 0) ∨ ∃ gb, go = some ⟨gb, 0, none⟩) (hat : at_ ≤ gn) (hgc : gn ≤ gc) (hgn : gn ≤ 1000000) (HC2 : ∀ W, Below W0.heap.size W0 W → W.cell? ⟨bm, 2, none⟩ = some (.int .i64 m.t)) (HC3 : ∀ W, Below W0.heap.size W0 W → W.cell? ⟨bm, 3, none⟩ = some (.int .i64 m.v)) (hl1 : s1.length = (at_) * 2) (HS1 : ∀ W, Below W0.heap.size W0 W → SrcF W (go) (at_) s1) (ho1 : ∀ u ∈ s1, u.oneCell' = true) (hl2 : s2.length = (gn - at_) * 2) (HS2 : ∀ W, Below W0.heap.size W0 W → SrcF W (subA 2 go gc at_) (gn - at_) s2) (ho2 : ∀ u ∈ s2, u.oneCell' = true)
    (HK : ∀ X W rv, W.ownsRow W0.heap.size 74 2 rv (0 + at_ + 1 + (gn - at_)) ([] ++ s1 ++ [.int .i64 m.t, .int .i64 m.v] ++ s2) → Below W0.heap.size W0 W → K (puts A X [94, 95, 96, 97, 98, 99, 100, 101, 102, 103, 104, 105, 106, 107, 108, 109, 110, 111, 112]) (W.setCell ⟨bv, 2, none⟩ rv)) :
    Code.wp Try.prog ((Try.f47.body.bind (regionJ 15)).getD .skip) (Exit.then K Q') A W0 := by
  obtain ⟨i0, hi, hz0, hz1, hz2⟩ := info_parts infoREdge
  have hin : ∀ {X : Nat → Value} {k : Nat}, k ∈ [94, 95, 96, 97, 98, 99, 100, 101, 102, 103, 104, 105, 106, 107, 108, 109, 110, 111, 112] → (puts A X [94, 95, 96, 97, 98, 99, 100, 101, 102, 103, 104, 105, 106, 107, 108, 109, 110, 111, 112]).eval (.tmp k) = X k := fun hk => eval_in hk (by
    rw [hsz]; revert hk; simp only [List.mem_cons, List.not_mem_nil, or_false]; omega)
  have hout : ∀ {X : Nat → Value} {k : Nat}, k ∉ [94, 95, 96, 97, 98, 99, 100, 101, 102, 103, 104, 105, 106, 107, 108, 109, 110, 111, 112] → (puts A X [94, 95, 96, 97, 98, 99, 100, 101, 102, 103, 104, 105, 106, 107, 108, 109, 110, 111, 112]).eval (.tmp k) = A.eval (.tmp k) := fun hk => eval_out hk
  generalize hds : [94, 95, 96, 97, 98, 99, 100, 101, 102, 103, 104, 105, 106, 107, 108, 109, 110, 111, 112] = ds at *
  conv => arg 2; whnf
  refine wp_region_J ds (fun on X W => (∃ rv RN RX hh, ¬ on 19 ∧ Jone_r15 W0 go gn gc at_ bv bm m s1 s2 on X W rv RN RX hh) ∨ ((on 19 ∧ ∃ W1 rv, W1.ownsRow W0.heap.size 74 2 rv (0 + at_ + 1 + (gn - at_)) ([] ++ s1 ++ [.int .i64 m.t, .int .i64 m.v] ++ s2) ∧ Below W0.heap.size W0 W1 ∧ W = W1.setCell ⟨bv, 2, none⟩ rv) ∧ ∀ k, k < 19 → on k)) (by kernel_rfl) (by kernel_rfl) ?start ?steps ?done
  case start =>
    refine .inl ⟨.bool false, 0, [], 0, fun h => h, ?_⟩
    constructor
    · exact ⟨rfl, rfl, rfl, Nat.le_refl _, fun _ _ => rfl⟩
    all_goals first | exact fun h => h.elim
  case done =>
    rintro on X W (⟨rv, RN, RX, hh, hno, hJ⟩ | ⟨⟨_, W1, rv, hrow, hlow, rfl⟩, _⟩) hall
    · exact absurd (hall 19 (by decide)) hno
    · exact HK X W1 rv hrow hlow
  case steps =>
    refine ⟨?_, ?_, ?_, ?_, ?_, ?_, ?_, ?_, ?_, ?_, ?_, ?_, ?_, ?_, ?_, ?_, ?_, ?_, ?_, ?_, trivial⟩
    · rintro on X W (⟨rv, RN, RX, hh, hno, hJ⟩ | ⟨hfin, hall⟩) hn hd
      rotate_left
      · exact absurd (hall 0 (by decide)) hn
      have hb : Below W.heap.size W (W.alloc (.cells #[] 74)) := one_newU _ _
      refine op_value (v := .slice (some ⟨W.heap.size, 0, none⟩) 0 0) (w' := W.alloc (.cells #[] 74)) ?_ ?_
      · generalize (puts A X ds).eval = ρ
        go_simp
      · exact ⟨upd X 94 (.slice (some ⟨W.heap.size, 0, none⟩) 0 0), puts_put _ (by rw [← hds]; decide), .inl ⟨.slice (some ⟨W.heap.size, 0, none⟩) 0 0, 0, [], hh, fun h => hno (h.resolve_left (by decide)), ⟨hJ.low.trans (hb.mono hJ.low.size), fun _ _ => rfl, fun _ _ => rfl, fun _ _ => rfl, fun h _ => absurd (hJ.c5 (h.resolve_left (by decide))) hn, fun h _ => absurd (hJ.c5 (h.resolve_left (by decide))) hn, fun h _ => absurd (hJ.c5 (h.resolve_left (by decide))) hn, fun h _ => absurd (hJ.c5 (hJ.c12 (h.resolve_left (by decide)))) hn, fun h _ => absurd (hJ.c5 (hJ.c12 (h.resolve_left (by decide)))) hn, fun h _ => absurd (hJ.c5 (hJ.c12 (h.resolve_left (by decide)))) hn, fun h => absurd (hJ.c5 (hJ.c12 (hJ.c17 (h.resolve_left (by decide))))) hn, fun h => absurd (hJ.c5 (hJ.c12 (hJ.c17 (h.resolve_left (by decide))))) hn, fun h => absurd (hJ.c5 (hJ.c12 (hJ.c17 (h.resolve_left (by decide))))) hn, fun _ => own_empty hJ.low.size, fun _ e0 => (by cases e0), fun h => hJ.x95 (h.resolve_left (by decide)), fun h => hJ.x96 (h.resolve_left (by decide)), fun h => hJ.x97 (h.resolve_left (by decide)), fun h => hJ.x98 (h.resolve_left (by decide)), fun h => hJ.x100 (h.resolve_left (by decide)), fun h => hJ.x101 (h.resolve_left (by decide)), fun h => hJ.x102 (h.resolve_left (by decide)), fun h => hJ.x103 (h.resolve_left (by decide)), fun h => hJ.x104 (h.resolve_left (by decide)), fun h => hJ.x105 (h.resolve_left (by decide)), fun h => (hb.block _ (lt_of_block (hJ.new (h.resolve_left (by decide))))).trans (hJ.new (h.resolve_left (by decide))), fun _ h e0 => by have := lt_of_block (hJ.new (h.resolve_left (by decide))); have h9 : W.heap.size = hh := Option.some.inj e0; omega, fun h => hJ.x107 (h.resolve_left (by decide)), fun h => hJ.x108 (h.resolve_left (by decide)), fun h => hJ.x109 (h.resolve_left (by decide)), fun h => hJ.x110 (h.resolve_left (by decide)), fun h => hJ.x112 (h.resolve_left (by decide)), fun h => .inr (hJ.c5 (h.resolve_left (by decide))), fun h => .inr (hJ.c12 (h.resolve_left (by decide))), fun h => .inr (hJ.c17 (h.resolve_left (by decide)))⟩⟩⟩
    · rintro on X W (⟨rv, RN, RX, hh, hno, hJ⟩ | ⟨hfin, hall⟩) hn hd
      rotate_left
      · exact absurd (hall 1 (by decide)) hn
      have h0 := hout (X := X) (k := 8) (by rw [← hds]; decide)
      rw [hA8] at h0
      refine op_value (v := .pointer (some ⟨bv, 2, none⟩)) (w' := W) ?_ ?_
      · generalize (puts A X ds).eval = ρ at h0 ⊢
        go_simp
      · exact ⟨upd X 95 (.pointer (some ⟨bv, 2, none⟩)), puts_put _ (by rw [← hds]; decide), .inl ⟨rv, RN, RX, hh, fun h => hno (h.resolve_left (by decide)), ⟨hJ.low, fun h h2 => hJ.x94 (h.resolve_left (by decide)) (fun h3 => h2 (.inr h3)), fun h h2 => hJ.n94 (h.resolve_left (by decide)) (fun h3 => h2 (.inr h3)), fun h h2 => hJ.l94 (h.resolve_left (by decide)) (fun h3 => h2 (.inr h3)), fun h h2 => hJ.x99 (h.resolve_left (by decide)) (fun h3 => h2 (.inr h3)), fun h h2 => hJ.n99 (h.resolve_left (by decide)) (fun h3 => h2 (.inr h3)), fun h h2 => hJ.l99 (h.resolve_left (by decide)) (fun h3 => h2 (.inr h3)), fun h h2 => hJ.x106 (h.resolve_left (by decide)) (fun h3 => h2 (.inr h3)), fun h h2 => hJ.n106 (h.resolve_left (by decide)) (fun h3 => h2 (.inr h3)), fun h h2 => hJ.l106 (h.resolve_left (by decide)) (fun h3 => h2 (.inr h3)), fun h => hJ.x111 (h.resolve_left (by decide)), fun h => hJ.n111 (h.resolve_left (by decide)), fun h => hJ.l111 (h.resolve_left (by decide)), fun h => hJ.row (h.resolve_left (by decide)), fun h => hJ.sm (h.resolve_left (by decide)), fun _ => rfl, fun h => hJ.x96 (h.resolve_left (by decide)), fun h => hJ.x97 (h.resolve_left (by decide)), fun h => hJ.x98 (h.resolve_left (by decide)), fun h => hJ.x100 (h.resolve_left (by decide)), fun h => hJ.x101 (h.resolve_left (by decide)), fun h => hJ.x102 (h.resolve_left (by decide)), fun h => hJ.x103 (h.resolve_left (by decide)), fun h => hJ.x104 (h.resolve_left (by decide)), fun h => hJ.x105 (h.resolve_left (by decide)), fun h => hJ.new (h.resolve_left (by decide)), fun h h2 => hJ.dn (h.resolve_left (by decide)) (h2.resolve_left (by decide)), fun h => hJ.x107 (h.resolve_left (by decide)), fun h => hJ.x108 (h.resolve_left (by decide)), fun h => hJ.x109 (h.resolve_left (by decide)), fun h => hJ.x110 (h.resolve_left (by decide)), fun h => hJ.x112 (h.resolve_left (by decide)), fun h => .inr (hJ.c5 (h.resolve_left (by decide))), fun h => .inr (hJ.c12 (h.resolve_left (by decide))), fun h => .inr (hJ.c17 (h.resolve_left (by decide)))⟩⟩⟩
    · rintro on X W (⟨rv, RN, RX, hh, hno, hJ⟩ | ⟨hfin, hall⟩) hn hd
      rotate_left
      · exact absurd (hall 2 (by decide)) hn
      have h0 := hin (X := X) (k := 95) (by rw [← hds]; decide)
      rw [hJ.x95 (hd 1 (by kernel_rfl))] at h0
      refine op_value (v := .slice go gn gc) (w' := W) ?_ ?_
      · generalize (puts A X ds).eval = ρ at h0 ⊢
        have hc := HZ0 W hJ.low
        go_simp
      · exact ⟨upd X 96 (.slice go gn gc), puts_put _ (by rw [← hds]; decide), .inl ⟨rv, RN, RX, hh, fun h => hno (h.resolve_left (by decide)), ⟨hJ.low, fun h h2 => hJ.x94 (h.resolve_left (by decide)) (fun h3 => h2 (.inr h3)), fun h h2 => hJ.n94 (h.resolve_left (by decide)) (fun h3 => h2 (.inr h3)), fun h h2 => hJ.l94 (h.resolve_left (by decide)) (fun h3 => h2 (.inr h3)), fun h h2 => hJ.x99 (h.resolve_left (by decide)) (fun h3 => h2 (.inr h3)), fun h h2 => hJ.n99 (h.resolve_left (by decide)) (fun h3 => h2 (.inr h3)), fun h h2 => hJ.l99 (h.resolve_left (by decide)) (fun h3 => h2 (.inr h3)), fun h h2 => hJ.x106 (h.resolve_left (by decide)) (fun h3 => h2 (.inr h3)), fun h h2 => hJ.n106 (h.resolve_left (by decide)) (fun h3 => h2 (.inr h3)), fun h h2 => hJ.l106 (h.resolve_left (by decide)) (fun h3 => h2 (.inr h3)), fun h => hJ.x111 (h.resolve_left (by decide)), fun h => hJ.n111 (h.resolve_left (by decide)), fun h => hJ.l111 (h.resolve_left (by decide)), fun h => hJ.row (h.resolve_left (by decide)), fun h => hJ.sm (h.resolve_left (by decide)), fun h => hJ.x95 (h.resolve_left (by decide)), fun _ => rfl, fun h => hJ.x97 (h.resolve_left (by decide)), fun h => hJ.x98 (h.resolve_left (by decide)), fun h => hJ.x100 (h.resolve_left (by decide)), fun h => hJ.x101 (h.resolve_left (by decide)), fun h => hJ.x102 (h.resolve_left (by decide)), fun h => hJ.x103 (h.resolve_left (by decide)), fun h => hJ.x104 (h.resolve_left (by decide)), fun h => hJ.x105 (h.resolve_left (by decide)), fun h => hJ.new (h.resolve_left (by decide)), fun h h2 => hJ.dn (h.resolve_left (by decide)) (h2.resolve_left (by decide)), fun h => hJ.x107 (h.resolve_left (by decide)), fun h => hJ.x108 (h.resolve_left (by decide)), fun h => hJ.x109 (h.resolve_left (by decide)), fun h => hJ.x110 (h.resolve_left (by decide)), fun h => hJ.x112 (h.resolve_left (by decide)), fun h => .inr (hJ.c5 (h.resolve_left (by decide))), fun h => .inr (hJ.c12 (h.resolve_left (by decide))), fun h => .inr (hJ.c17 (h.resolve_left (by decide)))⟩⟩⟩
    · rintro on X W (⟨rv, RN, RX, hh, hno, hJ⟩ | ⟨hfin, hall⟩) hn hd
      rotate_left
      · exact absurd (hall 3 (by decide)) hn
      have h0 := hout (X := X) (k := 9) (by rw [← hds]; decide)
      rw [hA9] at h0
      refine op_value (v := .int .i64 at_) (w' := W) ?_ ?_
      · generalize (puts A X ds).eval = ρ at h0 ⊢
        go_simp
      · exact ⟨upd X 97 (.int .i64 at_), puts_put _ (by rw [← hds]; decide), .inl ⟨rv, RN, RX, hh, fun h => hno (h.resolve_left (by decide)), ⟨hJ.low, fun h h2 => hJ.x94 (h.resolve_left (by decide)) (fun h3 => h2 (.inr h3)), fun h h2 => hJ.n94 (h.resolve_left (by decide)) (fun h3 => h2 (.inr h3)), fun h h2 => hJ.l94 (h.resolve_left (by decide)) (fun h3 => h2 (.inr h3)), fun h h2 => hJ.x99 (h.resolve_left (by decide)) (fun h3 => h2 (.inr h3)), fun h h2 => hJ.n99 (h.resolve_left (by decide)) (fun h3 => h2 (.inr h3)), fun h h2 => hJ.l99 (h.resolve_left (by decide)) (fun h3 => h2 (.inr h3)), fun h h2 => hJ.x106 (h.resolve_left (by decide)) (fun h3 => h2 (.inr h3)), fun h h2 => hJ.n106 (h.resolve_left (by decide)) (fun h3 => h2 (.inr h3)), fun h h2 => hJ.l106 (h.resolve_left (by decide)) (fun h3 => h2 (.inr h3)), fun h => hJ.x111 (h.resolve_left (by decide)), fun h => hJ.n111 (h.resolve_left (by decide)), fun h => hJ.l111 (h.resolve_left (by decide)), fun h => hJ.row (h.resolve_left (by decide)), fun h => hJ.sm (h.resolve_left (by decide)), fun h => hJ.x95 (h.resolve_left (by decide)), fun h => hJ.x96 (h.resolve_left (by decide)), fun _ => rfl, fun h => hJ.x98 (h.resolve_left (by decide)), fun h => hJ.x100 (h.resolve_left (by decide)), fun h => hJ.x101 (h.resolve_left (by decide)), fun h => hJ.x102 (h.resolve_left (by decide)), fun h => hJ.x103 (h.resolve_left (by decide)), fun h => hJ.x104 (h.resolve_left (by decide)), fun h => hJ.x105 (h.resolve_left (by decide)), fun h => hJ.new (h.resolve_left (by decide)), fun h h2 => hJ.dn (h.resolve_left (by decide)) (h2.resolve_left (by decide)), fun h => hJ.x107 (h.resolve_left (by decide)), fun h => hJ.x108 (h.resolve_left (by decide)), fun h => hJ.x109 (h.resolve_left (by decide)), fun h => hJ.x110 (h.resolve_left (by decide)), fun h => hJ.x112 (h.resolve_left (by decide)), fun h => .inr (hJ.c5 (h.resolve_left (by decide))), fun h => .inr (hJ.c12 (h.resolve_left (by decide))), fun h => .inr (hJ.c17 (h.resolve_left (by decide)))⟩⟩⟩
    · rintro on X W (⟨rv, RN, RX, hh, hno, hJ⟩ | ⟨hfin, hall⟩) hn hd
      rotate_left
      · exact absurd (hall 4 (by decide)) hn
      have h0 := hin (X := X) (k := 96) (by rw [← hds]; decide)
      rw [hJ.x96 (hd 2 (by kernel_rfl))] at h0
      have h1 := hin (X := X) (k := 97) (by rw [← hds]; decide)
      rw [hJ.x97 (hd 3 (by kernel_rfl))] at h1
      refine op_value (v := .slice go at_ gc) (w' := W) ?_ ?_
      · generalize (puts A X ds).eval = ρ at h0 h1 ⊢
        have hac : at_ ≤ gc := by omega
        rcases hgo with ⟨rfl, rfl, rfl, rfl⟩ | ⟨gb, rfl⟩
        · go_simp
        · go_simp
      · exact ⟨upd X 98 (.slice go at_ gc), puts_put _ (by rw [← hds]; decide), .inl ⟨rv, RN, RX, hh, fun h => hno (h.resolve_left (by decide)), ⟨hJ.low, fun h h2 => hJ.x94 (h.resolve_left (by decide)) (fun h3 => h2 (.inr h3)), fun h h2 => hJ.n94 (h.resolve_left (by decide)) (fun h3 => h2 (.inr h3)), fun h h2 => hJ.l94 (h.resolve_left (by decide)) (fun h3 => h2 (.inr h3)), fun h h2 => hJ.x99 (h.resolve_left (by decide)) (fun h3 => h2 (.inr h3)), fun h h2 => hJ.n99 (h.resolve_left (by decide)) (fun h3 => h2 (.inr h3)), fun h h2 => hJ.l99 (h.resolve_left (by decide)) (fun h3 => h2 (.inr h3)), fun h h2 => hJ.x106 (h.resolve_left (by decide)) (fun h3 => h2 (.inr h3)), fun h h2 => hJ.n106 (h.resolve_left (by decide)) (fun h3 => h2 (.inr h3)), fun h h2 => hJ.l106 (h.resolve_left (by decide)) (fun h3 => h2 (.inr h3)), fun h => hJ.x111 (h.resolve_left (by decide)), fun h => hJ.n111 (h.resolve_left (by decide)), fun h => hJ.l111 (h.resolve_left (by decide)), fun h => hJ.row (h.resolve_left (by decide)), fun h => hJ.sm (h.resolve_left (by decide)), fun h => hJ.x95 (h.resolve_left (by decide)), fun h => hJ.x96 (h.resolve_left (by decide)), fun h => hJ.x97 (h.resolve_left (by decide)), fun _ => rfl, fun h => hJ.x100 (h.resolve_left (by decide)), fun h => hJ.x101 (h.resolve_left (by decide)), fun h => hJ.x102 (h.resolve_left (by decide)), fun h => hJ.x103 (h.resolve_left (by decide)), fun h => hJ.x104 (h.resolve_left (by decide)), fun h => hJ.x105 (h.resolve_left (by decide)), fun h => hJ.new (h.resolve_left (by decide)), fun h h2 => hJ.dn (h.resolve_left (by decide)) (h2.resolve_left (by decide)), fun h => hJ.x107 (h.resolve_left (by decide)), fun h => hJ.x108 (h.resolve_left (by decide)), fun h => hJ.x109 (h.resolve_left (by decide)), fun h => hJ.x110 (h.resolve_left (by decide)), fun h => hJ.x112 (h.resolve_left (by decide)), fun h => .inr (hJ.c5 (h.resolve_left (by decide))), fun h => .inr (hJ.c12 (h.resolve_left (by decide))), fun h => .inr (hJ.c17 (h.resolve_left (by decide)))⟩⟩⟩
    · rintro on X W (⟨rv, RN, RX, hh, hno, hJ⟩ | ⟨hfin, hall⟩) hn hd
      rotate_left
      · exact absurd (hall 5 (by decide)) hn
      have hrow0 := hJ.row (hd 0 (by kernel_rfl))
      have hrow := hrow0
      rw [hJ.n94 (hd 0 (by kernel_rfl)) hn, hJ.l94 (hd 0 (by kernel_rfl)) hn] at hrow
      have h0 := hin (X := X) (k := 94) (by rw [← hds]; decide)
      rw [hJ.x94 (hd 0 (by kernel_rfl)) hn] at h0
      have h1 := hin (X := X) (k := 98) (by rw [← hds]; decide)
      rw [hJ.x98 (hd 4 (by kernel_rfl))] at h1
      refine op_appendG Try.underlying68 hi hz0 hz1 hz2 rfl (by decide) (by decide) rfl W0.heap.size rv (0) ([]) h0 hrow h1 (s1) hl1 (HS1 W hJ.low) ho1 (by omega) hJ.low.size ?_
      intro v' W' hown hgrow hat
      have f : Fr W W' (fun k => rv.ownBlock = some k) := Fr.grown hgrow (fun k hk => hk)
      have hsm : v'.ownBlock ≠ none := by
        rcases hat with h5 | h5
        · rw [h5]; exact hJ.sm (hd 0 (by kernel_rfl))
        · rw [h5]; simp
      have hdn : (11 = 5 ∨ on 11) → v'.ownBlock ≠ some hh := by
        intro h e0
        have h10 := h.resolve_left (by decide)
        rcases hat with h5 | h5
        · exact hJ.dn (hd 0 (by kernel_rfl)) h10 (h5.symm.trans e0)
        · have h6 := Option.some.inj (h5.symm.trans e0)
          have := lt_of_block (hJ.new h10)
          omega
      exact ⟨upd X 99 v', puts_put _ (by rw [← hds]; decide), .inl ⟨v', 0 + at_, [] ++ s1, hh, fun h => hno (h.resolve_left (by decide)), ⟨hJ.low.trans (f.below hJ.low.size (fun k hk => (World.ownsRow.lt hrow0 k hk).1)), fun _ h => absurd (.inl rfl) h, fun _ h => absurd (.inl rfl) h, fun _ h => absurd (.inl rfl) h, fun _ _ => rfl, fun _ _ => rfl, fun _ _ => rfl, fun h _ => absurd (hJ.c12 (h.resolve_left (by decide))) hn, fun h _ => absurd (hJ.c12 (h.resolve_left (by decide))) hn, fun h _ => absurd (hJ.c12 (h.resolve_left (by decide))) hn, fun h => absurd (hJ.c12 (hJ.c17 (h.resolve_left (by decide)))) hn, fun h => absurd (hJ.c12 (hJ.c17 (h.resolve_left (by decide)))) hn, fun h => absurd (hJ.c12 (hJ.c17 (h.resolve_left (by decide)))) hn, fun _ => hown, fun _ => hsm, fun h => hJ.x95 (h.resolve_left (by decide)), fun h => hJ.x96 (h.resolve_left (by decide)), fun h => hJ.x97 (h.resolve_left (by decide)), fun h => hJ.x98 (h.resolve_left (by decide)), fun h => hJ.x100 (h.resolve_left (by decide)), fun h => hJ.x101 (h.resolve_left (by decide)), fun h => hJ.x102 (h.resolve_left (by decide)), fun h => hJ.x103 (h.resolve_left (by decide)), fun h => hJ.x104 (h.resolve_left (by decide)), fun h => hJ.x105 (h.resolve_left (by decide)), fun h => (f.block _ (lt_of_block (hJ.new (h.resolve_left (by decide)))) (fun e0 => hJ.dn (hd 0 (by kernel_rfl)) (h.resolve_left (by decide)) e0)).trans (hJ.new (h.resolve_left (by decide))), fun _ h => hdn h, fun h => hJ.x107 (h.resolve_left (by decide)), fun h => hJ.x108 (h.resolve_left (by decide)), fun h => hJ.x109 (h.resolve_left (by decide)), fun h => hJ.x110 (h.resolve_left (by decide)), fun h => hJ.x112 (h.resolve_left (by decide)), fun _ => .inr (hd 0 (by kernel_rfl)), fun h => .inr (hJ.c12 (h.resolve_left (by decide))), fun h => .inr (hJ.c17 (h.resolve_left (by decide)))⟩⟩⟩
    · rintro on X W (⟨rv, RN, RX, hh, hno, hJ⟩ | ⟨hfin, hall⟩) hn hd
      rotate_left
      · exact absurd (hall 6 (by decide)) hn
      have h0 := hout (X := X) (k := 3) (by rw [← hds]; decide)
      rw [hA3] at h0
      refine op_value (v := .pointer (some ⟨bm, 2, none⟩)) (w' := W) ?_ ?_
      · generalize (puts A X ds).eval = ρ at h0 ⊢
        go_simp
      · exact ⟨upd X 100 (.pointer (some ⟨bm, 2, none⟩)), puts_put _ (by rw [← hds]; decide), .inl ⟨rv, RN, RX, hh, fun h => hno (h.resolve_left (by decide)), ⟨hJ.low, fun h h2 => hJ.x94 (h.resolve_left (by decide)) (fun h3 => h2 (.inr h3)), fun h h2 => hJ.n94 (h.resolve_left (by decide)) (fun h3 => h2 (.inr h3)), fun h h2 => hJ.l94 (h.resolve_left (by decide)) (fun h3 => h2 (.inr h3)), fun h h2 => hJ.x99 (h.resolve_left (by decide)) (fun h3 => h2 (.inr h3)), fun h h2 => hJ.n99 (h.resolve_left (by decide)) (fun h3 => h2 (.inr h3)), fun h h2 => hJ.l99 (h.resolve_left (by decide)) (fun h3 => h2 (.inr h3)), fun h h2 => hJ.x106 (h.resolve_left (by decide)) (fun h3 => h2 (.inr h3)), fun h h2 => hJ.n106 (h.resolve_left (by decide)) (fun h3 => h2 (.inr h3)), fun h h2 => hJ.l106 (h.resolve_left (by decide)) (fun h3 => h2 (.inr h3)), fun h => hJ.x111 (h.resolve_left (by decide)), fun h => hJ.n111 (h.resolve_left (by decide)), fun h => hJ.l111 (h.resolve_left (by decide)), fun h => hJ.row (h.resolve_left (by decide)), fun h => hJ.sm (h.resolve_left (by decide)), fun h => hJ.x95 (h.resolve_left (by decide)), fun h => hJ.x96 (h.resolve_left (by decide)), fun h => hJ.x97 (h.resolve_left (by decide)), fun h => hJ.x98 (h.resolve_left (by decide)), fun _ => rfl, fun h => hJ.x101 (h.resolve_left (by decide)), fun h => hJ.x102 (h.resolve_left (by decide)), fun h => hJ.x103 (h.resolve_left (by decide)), fun h => hJ.x104 (h.resolve_left (by decide)), fun h => hJ.x105 (h.resolve_left (by decide)), fun h => hJ.new (h.resolve_left (by decide)), fun h h2 => hJ.dn (h.resolve_left (by decide)) (h2.resolve_left (by decide)), fun h => hJ.x107 (h.resolve_left (by decide)), fun h => hJ.x108 (h.resolve_left (by decide)), fun h => hJ.x109 (h.resolve_left (by decide)), fun h => hJ.x110 (h.resolve_left (by decide)), fun h => hJ.x112 (h.resolve_left (by decide)), fun h => .inr (hJ.c5 (h.resolve_left (by decide))), fun h => .inr (hJ.c12 (h.resolve_left (by decide))), fun h => .inr (hJ.c17 (h.resolve_left (by decide)))⟩⟩⟩
    · rintro on X W (⟨rv, RN, RX, hh, hno, hJ⟩ | ⟨hfin, hall⟩) hn hd
      rotate_left
      · exact absurd (hall 7 (by decide)) hn
      have h0 := hin (X := X) (k := 100) (by rw [← hds]; decide)
      rw [hJ.x100 (hd 6 (by kernel_rfl))] at h0
      refine op_value (v := .int .i64 m.t) (w' := W) ?_ ?_
      · generalize (puts A X ds).eval = ρ at h0 ⊢
        have hc := HC2 W hJ.low
        go_simp
      · exact ⟨upd X 101 (.int .i64 m.t), puts_put _ (by rw [← hds]; decide), .inl ⟨rv, RN, RX, hh, fun h => hno (h.resolve_left (by decide)), ⟨hJ.low, fun h h2 => hJ.x94 (h.resolve_left (by decide)) (fun h3 => h2 (.inr h3)), fun h h2 => hJ.n94 (h.resolve_left (by decide)) (fun h3 => h2 (.inr h3)), fun h h2 => hJ.l94 (h.resolve_left (by decide)) (fun h3 => h2 (.inr h3)), fun h h2 => hJ.x99 (h.resolve_left (by decide)) (fun h3 => h2 (.inr h3)), fun h h2 => hJ.n99 (h.resolve_left (by decide)) (fun h3 => h2 (.inr h3)), fun h h2 => hJ.l99 (h.resolve_left (by decide)) (fun h3 => h2 (.inr h3)), fun h h2 => hJ.x106 (h.resolve_left (by decide)) (fun h3 => h2 (.inr h3)), fun h h2 => hJ.n106 (h.resolve_left (by decide)) (fun h3 => h2 (.inr h3)), fun h h2 => hJ.l106 (h.resolve_left (by decide)) (fun h3 => h2 (.inr h3)), fun h => hJ.x111 (h.resolve_left (by decide)), fun h => hJ.n111 (h.resolve_left (by decide)), fun h => hJ.l111 (h.resolve_left (by decide)), fun h => hJ.row (h.resolve_left (by decide)), fun h => hJ.sm (h.resolve_left (by decide)), fun h => hJ.x95 (h.resolve_left (by decide)), fun h => hJ.x96 (h.resolve_left (by decide)), fun h => hJ.x97 (h.resolve_left (by decide)), fun h => hJ.x98 (h.resolve_left (by decide)), fun h => hJ.x100 (h.resolve_left (by decide)), fun _ => rfl, fun h => hJ.x102 (h.resolve_left (by decide)), fun h => hJ.x103 (h.resolve_left (by decide)), fun h => hJ.x104 (h.resolve_left (by decide)), fun h => hJ.x105 (h.resolve_left (by decide)), fun h => hJ.new (h.resolve_left (by decide)), fun h h2 => hJ.dn (h.resolve_left (by decide)) (h2.resolve_left (by decide)), fun h => hJ.x107 (h.resolve_left (by decide)), fun h => hJ.x108 (h.resolve_left (by decide)), fun h => hJ.x109 (h.resolve_left (by decide)), fun h => hJ.x110 (h.resolve_left (by decide)), fun h => hJ.x112 (h.resolve_left (by decide)), fun h => .inr (hJ.c5 (h.resolve_left (by decide))), fun h => .inr (hJ.c12 (h.resolve_left (by decide))), fun h => .inr (hJ.c17 (h.resolve_left (by decide)))⟩⟩⟩
    · rintro on X W (⟨rv, RN, RX, hh, hno, hJ⟩ | ⟨hfin, hall⟩) hn hd
      rotate_left
      · exact absurd (hall 8 (by decide)) hn
      have h0 := hout (X := X) (k := 3) (by rw [← hds]; decide)
      rw [hA3] at h0
      refine op_value (v := .pointer (some ⟨bm, 3, none⟩)) (w' := W) ?_ ?_
      · generalize (puts A X ds).eval = ρ at h0 ⊢
        go_simp
      · exact ⟨upd X 102 (.pointer (some ⟨bm, 3, none⟩)), puts_put _ (by rw [← hds]; decide), .inl ⟨rv, RN, RX, hh, fun h => hno (h.resolve_left (by decide)), ⟨hJ.low, fun h h2 => hJ.x94 (h.resolve_left (by decide)) (fun h3 => h2 (.inr h3)), fun h h2 => hJ.n94 (h.resolve_left (by decide)) (fun h3 => h2 (.inr h3)), fun h h2 => hJ.l94 (h.resolve_left (by decide)) (fun h3 => h2 (.inr h3)), fun h h2 => hJ.x99 (h.resolve_left (by decide)) (fun h3 => h2 (.inr h3)), fun h h2 => hJ.n99 (h.resolve_left (by decide)) (fun h3 => h2 (.inr h3)), fun h h2 => hJ.l99 (h.resolve_left (by decide)) (fun h3 => h2 (.inr h3)), fun h h2 => hJ.x106 (h.resolve_left (by decide)) (fun h3 => h2 (.inr h3)), fun h h2 => hJ.n106 (h.resolve_left (by decide)) (fun h3 => h2 (.inr h3)), fun h h2 => hJ.l106 (h.resolve_left (by decide)) (fun h3 => h2 (.inr h3)), fun h => hJ.x111 (h.resolve_left (by decide)), fun h => hJ.n111 (h.resolve_left (by decide)), fun h => hJ.l111 (h.resolve_left (by decide)), fun h => hJ.row (h.resolve_left (by decide)), fun h => hJ.sm (h.resolve_left (by decide)), fun h => hJ.x95 (h.resolve_left (by decide)), fun h => hJ.x96 (h.resolve_left (by decide)), fun h => hJ.x97 (h.resolve_left (by decide)), fun h => hJ.x98 (h.resolve_left (by decide)), fun h => hJ.x100 (h.resolve_left (by decide)), fun h => hJ.x101 (h.resolve_left (by decide)), fun _ => rfl, fun h => hJ.x103 (h.resolve_left (by decide)), fun h => hJ.x104 (h.resolve_left (by decide)), fun h => hJ.x105 (h.resolve_left (by decide)), fun h => hJ.new (h.resolve_left (by decide)), fun h h2 => hJ.dn (h.resolve_left (by decide)) (h2.resolve_left (by decide)), fun h => hJ.x107 (h.resolve_left (by decide)), fun h => hJ.x108 (h.resolve_left (by decide)), fun h => hJ.x109 (h.resolve_left (by decide)), fun h => hJ.x110 (h.resolve_left (by decide)), fun h => hJ.x112 (h.resolve_left (by decide)), fun h => .inr (hJ.c5 (h.resolve_left (by decide))), fun h => .inr (hJ.c12 (h.resolve_left (by decide))), fun h => .inr (hJ.c17 (h.resolve_left (by decide)))⟩⟩⟩
    · rintro on X W (⟨rv, RN, RX, hh, hno, hJ⟩ | ⟨hfin, hall⟩) hn hd
      rotate_left
      · exact absurd (hall 9 (by decide)) hn
      have h0 := hin (X := X) (k := 102) (by rw [← hds]; decide)
      rw [hJ.x102 (hd 8 (by kernel_rfl))] at h0
      refine op_value (v := .int .i64 m.v) (w' := W) ?_ ?_
      · generalize (puts A X ds).eval = ρ at h0 ⊢
        have hc := HC3 W hJ.low
        go_simp
      · exact ⟨upd X 103 (.int .i64 m.v), puts_put _ (by rw [← hds]; decide), .inl ⟨rv, RN, RX, hh, fun h => hno (h.resolve_left (by decide)), ⟨hJ.low, fun h h2 => hJ.x94 (h.resolve_left (by decide)) (fun h3 => h2 (.inr h3)), fun h h2 => hJ.n94 (h.resolve_left (by decide)) (fun h3 => h2 (.inr h3)), fun h h2 => hJ.l94 (h.resolve_left (by decide)) (fun h3 => h2 (.inr h3)), fun h h2 => hJ.x99 (h.resolve_left (by decide)) (fun h3 => h2 (.inr h3)), fun h h2 => hJ.n99 (h.resolve_left (by decide)) (fun h3 => h2 (.inr h3)), fun h h2 => hJ.l99 (h.resolve_left (by decide)) (fun h3 => h2 (.inr h3)), fun h h2 => hJ.x106 (h.resolve_left (by decide)) (fun h3 => h2 (.inr h3)), fun h h2 => hJ.n106 (h.resolve_left (by decide)) (fun h3 => h2 (.inr h3)), fun h h2 => hJ.l106 (h.resolve_left (by decide)) (fun h3 => h2 (.inr h3)), fun h => hJ.x111 (h.resolve_left (by decide)), fun h => hJ.n111 (h.resolve_left (by decide)), fun h => hJ.l111 (h.resolve_left (by decide)), fun h => hJ.row (h.resolve_left (by decide)), fun h => hJ.sm (h.resolve_left (by decide)), fun h => hJ.x95 (h.resolve_left (by decide)), fun h => hJ.x96 (h.resolve_left (by decide)), fun h => hJ.x97 (h.resolve_left (by decide)), fun h => hJ.x98 (h.resolve_left (by decide)), fun h => hJ.x100 (h.resolve_left (by decide)), fun h => hJ.x101 (h.resolve_left (by decide)), fun h => hJ.x102 (h.resolve_left (by decide)), fun _ => rfl, fun h => hJ.x104 (h.resolve_left (by decide)), fun h => hJ.x105 (h.resolve_left (by decide)), fun h => hJ.new (h.resolve_left (by decide)), fun h h2 => hJ.dn (h.resolve_left (by decide)) (h2.resolve_left (by decide)), fun h => hJ.x107 (h.resolve_left (by decide)), fun h => hJ.x108 (h.resolve_left (by decide)), fun h => hJ.x109 (h.resolve_left (by decide)), fun h => hJ.x110 (h.resolve_left (by decide)), fun h => hJ.x112 (h.resolve_left (by decide)), fun h => .inr (hJ.c5 (h.resolve_left (by decide))), fun h => .inr (hJ.c12 (h.resolve_left (by decide))), fun h => .inr (hJ.c17 (h.resolve_left (by decide)))⟩⟩⟩
    · rintro on X W (⟨rv, RN, RX, hh, hno, hJ⟩ | ⟨hfin, hall⟩) hn hd
      rotate_left
      · exact absurd (hall 10 (by decide)) hn
      have h0 := hin (X := X) (k := 101) (by rw [← hds]; decide)
      rw [hJ.x101 (hd 7 (by kernel_rfl))] at h0
      have h1 := hin (X := X) (k := 103) (by rw [← hds]; decide)
      rw [hJ.x103 (hd 9 (by kernel_rfl))] at h1
      refine op_value (v := .agg #[.int .i64 m.t, .int .i64 m.v]) (w' := W) ?_ ?_
      · generalize (puts A X ds).eval = ρ at h0 h1 ⊢
        go_simp
      · exact ⟨upd X 104 (.agg #[.int .i64 m.t, .int .i64 m.v]), puts_put _ (by rw [← hds]; decide), .inl ⟨rv, RN, RX, hh, fun h => hno (h.resolve_left (by decide)), ⟨hJ.low, fun h h2 => hJ.x94 (h.resolve_left (by decide)) (fun h3 => h2 (.inr h3)), fun h h2 => hJ.n94 (h.resolve_left (by decide)) (fun h3 => h2 (.inr h3)), fun h h2 => hJ.l94 (h.resolve_left (by decide)) (fun h3 => h2 (.inr h3)), fun h h2 => hJ.x99 (h.resolve_left (by decide)) (fun h3 => h2 (.inr h3)), fun h h2 => hJ.n99 (h.resolve_left (by decide)) (fun h3 => h2 (.inr h3)), fun h h2 => hJ.l99 (h.resolve_left (by decide)) (fun h3 => h2 (.inr h3)), fun h h2 => hJ.x106 (h.resolve_left (by decide)) (fun h3 => h2 (.inr h3)), fun h h2 => hJ.n106 (h.resolve_left (by decide)) (fun h3 => h2 (.inr h3)), fun h h2 => hJ.l106 (h.resolve_left (by decide)) (fun h3 => h2 (.inr h3)), fun h => hJ.x111 (h.resolve_left (by decide)), fun h => hJ.n111 (h.resolve_left (by decide)), fun h => hJ.l111 (h.resolve_left (by decide)), fun h => hJ.row (h.resolve_left (by decide)), fun h => hJ.sm (h.resolve_left (by decide)), fun h => hJ.x95 (h.resolve_left (by decide)), fun h => hJ.x96 (h.resolve_left (by decide)), fun h => hJ.x97 (h.resolve_left (by decide)), fun h => hJ.x98 (h.resolve_left (by decide)), fun h => hJ.x100 (h.resolve_left (by decide)), fun h => hJ.x101 (h.resolve_left (by decide)), fun h => hJ.x102 (h.resolve_left (by decide)), fun h => hJ.x103 (h.resolve_left (by decide)), fun _ => rfl, fun h => hJ.x105 (h.resolve_left (by decide)), fun h => hJ.new (h.resolve_left (by decide)), fun h h2 => hJ.dn (h.resolve_left (by decide)) (h2.resolve_left (by decide)), fun h => hJ.x107 (h.resolve_left (by decide)), fun h => hJ.x108 (h.resolve_left (by decide)), fun h => hJ.x109 (h.resolve_left (by decide)), fun h => hJ.x110 (h.resolve_left (by decide)), fun h => hJ.x112 (h.resolve_left (by decide)), fun h => .inr (hJ.c5 (h.resolve_left (by decide))), fun h => .inr (hJ.c12 (h.resolve_left (by decide))), fun h => .inr (hJ.c17 (h.resolve_left (by decide)))⟩⟩⟩
    · rintro on X W (⟨rv, RN, RX, hh, hno, hJ⟩ | ⟨hfin, hall⟩) hn hd
      rotate_left
      · exact absurd (hall 11 (by decide)) hn
      have h0 := hin (X := X) (k := 104) (by rw [← hds]; decide)
      rw [hJ.x104 (hd 10 (by kernel_rfl))] at h0
      have hb : Below W.heap.size W (W.alloc (.cells #[.int .i64 m.t, .int .i64 m.v] 74)) := one_newU _ _
      refine op_value (v := .slice (some ⟨W.heap.size, 0, none⟩) 1 1) (w' := W.alloc (.cells #[.int .i64 m.t, .int .i64 m.v] 74)) ?_ ?_
      · generalize (puts A X ds).eval = ρ at h0 ⊢
        go_simp
      · exact ⟨upd X 105 (.slice (some ⟨W.heap.size, 0, none⟩) 1 1), puts_put _ (by rw [← hds]; decide), .inl ⟨rv, RN, RX, W.heap.size, fun h => hno (h.resolve_left (by decide)), ⟨hJ.low.trans (hb.mono hJ.low.size), fun h h2 => hJ.x94 (h.resolve_left (by decide)) (fun h3 => h2 (.inr h3)), fun h h2 => hJ.n94 (h.resolve_left (by decide)) (fun h3 => h2 (.inr h3)), fun h h2 => hJ.l94 (h.resolve_left (by decide)) (fun h3 => h2 (.inr h3)), fun h h2 => hJ.x99 (h.resolve_left (by decide)) (fun h3 => h2 (.inr h3)), fun h h2 => hJ.n99 (h.resolve_left (by decide)) (fun h3 => h2 (.inr h3)), fun h h2 => hJ.l99 (h.resolve_left (by decide)) (fun h3 => h2 (.inr h3)), fun h h2 => hJ.x106 (h.resolve_left (by decide)) (fun h3 => h2 (.inr h3)), fun h h2 => hJ.n106 (h.resolve_left (by decide)) (fun h3 => h2 (.inr h3)), fun h h2 => hJ.l106 (h.resolve_left (by decide)) (fun h3 => h2 (.inr h3)), fun h => hJ.x111 (h.resolve_left (by decide)), fun h => hJ.n111 (h.resolve_left (by decide)), fun h => hJ.l111 (h.resolve_left (by decide)), fun h => own_new (hJ.row (h.resolve_left (by decide))) hb, fun h => hJ.sm (h.resolve_left (by decide)), fun h => hJ.x95 (h.resolve_left (by decide)), fun h => hJ.x96 (h.resolve_left (by decide)), fun h => hJ.x97 (h.resolve_left (by decide)), fun h => hJ.x98 (h.resolve_left (by decide)), fun h => hJ.x100 (h.resolve_left (by decide)), fun h => hJ.x101 (h.resolve_left (by decide)), fun h => hJ.x102 (h.resolve_left (by decide)), fun h => hJ.x103 (h.resolve_left (by decide)), fun h => hJ.x104 (h.resolve_left (by decide)), fun _ => rfl, fun _ => heap_alloc_new _ _, fun h _ e0 => by have := (World.ownsRow.lt (hJ.row (h.resolve_left (by decide))) _ e0).2; omega, fun h => hJ.x107 (h.resolve_left (by decide)), fun h => hJ.x108 (h.resolve_left (by decide)), fun h => hJ.x109 (h.resolve_left (by decide)), fun h => hJ.x110 (h.resolve_left (by decide)), fun h => hJ.x112 (h.resolve_left (by decide)), fun h => .inr (hJ.c5 (h.resolve_left (by decide))), fun h => .inr (hJ.c12 (h.resolve_left (by decide))), fun h => .inr (hJ.c17 (h.resolve_left (by decide)))⟩⟩⟩
    · rintro on X W (⟨rv, RN, RX, hh, hno, hJ⟩ | ⟨hfin, hall⟩) hn hd
      rotate_left
      · exact absurd (hall 12 (by decide)) hn
      have hrow0 := hJ.row (hJ.c5 (hd 5 (by kernel_rfl)))
      have hrow := hrow0
      rw [hJ.n99 (hd 5 (by kernel_rfl)) hn, hJ.l99 (hd 5 (by kernel_rfl)) hn] at hrow
      have h0 := hin (X := X) (k := 99) (by rw [← hds]; decide)
      rw [hJ.x99 (hd 5 (by kernel_rfl)) hn] at h0
      have h1 := hin (X := X) (k := 105) (by rw [← hds]; decide)
      rw [hJ.x105 (hd 11 (by kernel_rfl))] at h1
      refine op_appendG Try.underlying68 hi hz0 hz1 hz2 rfl (by decide) (by decide) rfl W0.heap.size rv (0 + at_) ([] ++ s1) h0 hrow h1 ([.int .i64 m.t, .int .i64 m.v]) rfl (src_one (hJ.new (hd 11 (by kernel_rfl)))) (by intro u hu; simp at hu; rcases hu with rfl | rfl <;> rfl) (by omega) hJ.low.size ?_
      intro v' W' hown hgrow hat
      have f : Fr W W' (fun k => rv.ownBlock = some k) := Fr.grown hgrow (fun k hk => hk)
      have hsm : v'.ownBlock ≠ none := by
        rcases hat with h5 | h5
        · rw [h5]; exact hJ.sm (hJ.c5 (hd 5 (by kernel_rfl)))
        · rw [h5]; simp
      have hdn : (11 = 12 ∨ on 11) → v'.ownBlock ≠ some hh := by
        intro h e0
        have h10 := h.resolve_left (by decide)
        rcases hat with h5 | h5
        · exact hJ.dn (hJ.c5 (hd 5 (by kernel_rfl))) h10 (h5.symm.trans e0)
        · have h6 := Option.some.inj (h5.symm.trans e0)
          have := lt_of_block (hJ.new h10)
          omega
      exact ⟨upd X 106 v', puts_put _ (by rw [← hds]; decide), .inl ⟨v', 0 + at_ + 1, [] ++ s1 ++ [.int .i64 m.t, .int .i64 m.v], hh, fun h => hno (h.resolve_left (by decide)), ⟨hJ.low.trans (f.below hJ.low.size (fun k hk => (World.ownsRow.lt hrow0 k hk).1)), fun _ h2 => absurd (.inr (hd 5 (by kernel_rfl))) h2, fun _ h2 => absurd (.inr (hd 5 (by kernel_rfl))) h2, fun _ h2 => absurd (.inr (hd 5 (by kernel_rfl))) h2, fun _ h => absurd (.inl rfl) h, fun _ h => absurd (.inl rfl) h, fun _ h => absurd (.inl rfl) h, fun _ _ => rfl, fun _ _ => rfl, fun _ _ => rfl, fun h => absurd (hJ.c17 (h.resolve_left (by decide))) hn, fun h => absurd (hJ.c17 (h.resolve_left (by decide))) hn, fun h => absurd (hJ.c17 (h.resolve_left (by decide))) hn, fun _ => hown, fun _ => hsm, fun h => hJ.x95 (h.resolve_left (by decide)), fun h => hJ.x96 (h.resolve_left (by decide)), fun h => hJ.x97 (h.resolve_left (by decide)), fun h => hJ.x98 (h.resolve_left (by decide)), fun h => hJ.x100 (h.resolve_left (by decide)), fun h => hJ.x101 (h.resolve_left (by decide)), fun h => hJ.x102 (h.resolve_left (by decide)), fun h => hJ.x103 (h.resolve_left (by decide)), fun h => hJ.x104 (h.resolve_left (by decide)), fun h => hJ.x105 (h.resolve_left (by decide)), fun h => (f.block _ (lt_of_block (hJ.new (h.resolve_left (by decide)))) (fun e0 => hJ.dn (hJ.c5 (hd 5 (by kernel_rfl))) (h.resolve_left (by decide)) e0)).trans (hJ.new (h.resolve_left (by decide))), fun _ h => hdn h, fun h => hJ.x107 (h.resolve_left (by decide)), fun h => hJ.x108 (h.resolve_left (by decide)), fun h => hJ.x109 (h.resolve_left (by decide)), fun h => hJ.x110 (h.resolve_left (by decide)), fun h => hJ.x112 (h.resolve_left (by decide)), fun h => .inr (hJ.c5 (h.resolve_left (by decide))), fun _ => .inr (hd 5 (by kernel_rfl)), fun h => .inr (hJ.c17 (h.resolve_left (by decide)))⟩⟩⟩
    · rintro on X W (⟨rv, RN, RX, hh, hno, hJ⟩ | ⟨hfin, hall⟩) hn hd
      rotate_left
      · exact absurd (hall 13 (by decide)) hn
      have h0 := hout (X := X) (k := 8) (by rw [← hds]; decide)
      rw [hA8] at h0
      refine op_value (v := .pointer (some ⟨bv, 2, none⟩)) (w' := W) ?_ ?_
      · generalize (puts A X ds).eval = ρ at h0 ⊢
        go_simp
      · exact ⟨upd X 107 (.pointer (some ⟨bv, 2, none⟩)), puts_put _ (by rw [← hds]; decide), .inl ⟨rv, RN, RX, hh, fun h => hno (h.resolve_left (by decide)), ⟨hJ.low, fun h h2 => hJ.x94 (h.resolve_left (by decide)) (fun h3 => h2 (.inr h3)), fun h h2 => hJ.n94 (h.resolve_left (by decide)) (fun h3 => h2 (.inr h3)), fun h h2 => hJ.l94 (h.resolve_left (by decide)) (fun h3 => h2 (.inr h3)), fun h h2 => hJ.x99 (h.resolve_left (by decide)) (fun h3 => h2 (.inr h3)), fun h h2 => hJ.n99 (h.resolve_left (by decide)) (fun h3 => h2 (.inr h3)), fun h h2 => hJ.l99 (h.resolve_left (by decide)) (fun h3 => h2 (.inr h3)), fun h h2 => hJ.x106 (h.resolve_left (by decide)) (fun h3 => h2 (.inr h3)), fun h h2 => hJ.n106 (h.resolve_left (by decide)) (fun h3 => h2 (.inr h3)), fun h h2 => hJ.l106 (h.resolve_left (by decide)) (fun h3 => h2 (.inr h3)), fun h => hJ.x111 (h.resolve_left (by decide)), fun h => hJ.n111 (h.resolve_left (by decide)), fun h => hJ.l111 (h.resolve_left (by decide)), fun h => hJ.row (h.resolve_left (by decide)), fun h => hJ.sm (h.resolve_left (by decide)), fun h => hJ.x95 (h.resolve_left (by decide)), fun h => hJ.x96 (h.resolve_left (by decide)), fun h => hJ.x97 (h.resolve_left (by decide)), fun h => hJ.x98 (h.resolve_left (by decide)), fun h => hJ.x100 (h.resolve_left (by decide)), fun h => hJ.x101 (h.resolve_left (by decide)), fun h => hJ.x102 (h.resolve_left (by decide)), fun h => hJ.x103 (h.resolve_left (by decide)), fun h => hJ.x104 (h.resolve_left (by decide)), fun h => hJ.x105 (h.resolve_left (by decide)), fun h => hJ.new (h.resolve_left (by decide)), fun h h2 => hJ.dn (h.resolve_left (by decide)) (h2.resolve_left (by decide)), fun _ => rfl, fun h => hJ.x108 (h.resolve_left (by decide)), fun h => hJ.x109 (h.resolve_left (by decide)), fun h => hJ.x110 (h.resolve_left (by decide)), fun h => hJ.x112 (h.resolve_left (by decide)), fun h => .inr (hJ.c5 (h.resolve_left (by decide))), fun h => .inr (hJ.c12 (h.resolve_left (by decide))), fun h => .inr (hJ.c17 (h.resolve_left (by decide)))⟩⟩⟩
    · rintro on X W (⟨rv, RN, RX, hh, hno, hJ⟩ | ⟨hfin, hall⟩) hn hd
      rotate_left
      · exact absurd (hall 14 (by decide)) hn
      have h0 := hin (X := X) (k := 107) (by rw [← hds]; decide)
      rw [hJ.x107 (hd 13 (by kernel_rfl))] at h0
      refine op_value (v := .slice go gn gc) (w' := W) ?_ ?_
      · generalize (puts A X ds).eval = ρ at h0 ⊢
        have hc := HZ0 W hJ.low
        go_simp
      · exact ⟨upd X 108 (.slice go gn gc), puts_put _ (by rw [← hds]; decide), .inl ⟨rv, RN, RX, hh, fun h => hno (h.resolve_left (by decide)), ⟨hJ.low, fun h h2 => hJ.x94 (h.resolve_left (by decide)) (fun h3 => h2 (.inr h3)), fun h h2 => hJ.n94 (h.resolve_left (by decide)) (fun h3 => h2 (.inr h3)), fun h h2 => hJ.l94 (h.resolve_left (by decide)) (fun h3 => h2 (.inr h3)), fun h h2 => hJ.x99 (h.resolve_left (by decide)) (fun h3 => h2 (.inr h3)), fun h h2 => hJ.n99 (h.resolve_left (by decide)) (fun h3 => h2 (.inr h3)), fun h h2 => hJ.l99 (h.resolve_left (by decide)) (fun h3 => h2 (.inr h3)), fun h h2 => hJ.x106 (h.resolve_left (by decide)) (fun h3 => h2 (.inr h3)), fun h h2 => hJ.n106 (h.resolve_left (by decide)) (fun h3 => h2 (.inr h3)), fun h h2 => hJ.l106 (h.resolve_left (by decide)) (fun h3 => h2 (.inr h3)), fun h => hJ.x111 (h.resolve_left (by decide)), fun h => hJ.n111 (h.resolve_left (by decide)), fun h => hJ.l111 (h.resolve_left (by decide)), fun h => hJ.row (h.resolve_left (by decide)), fun h => hJ.sm (h.resolve_left (by decide)), fun h => hJ.x95 (h.resolve_left (by decide)), fun h => hJ.x96 (h.resolve_left (by decide)), fun h => hJ.x97 (h.resolve_left (by decide)), fun h => hJ.x98 (h.resolve_left (by decide)), fun h => hJ.x100 (h.resolve_left (by decide)), fun h => hJ.x101 (h.resolve_left (by decide)), fun h => hJ.x102 (h.resolve_left (by decide)), fun h => hJ.x103 (h.resolve_left (by decide)), fun h => hJ.x104 (h.resolve_left (by decide)), fun h => hJ.x105 (h.resolve_left (by decide)), fun h => hJ.new (h.resolve_left (by decide)), fun h h2 => hJ.dn (h.resolve_left (by decide)) (h2.resolve_left (by decide)), fun h => hJ.x107 (h.resolve_left (by decide)), fun _ => rfl, fun h => hJ.x109 (h.resolve_left (by decide)), fun h => hJ.x110 (h.resolve_left (by decide)), fun h => hJ.x112 (h.resolve_left (by decide)), fun h => .inr (hJ.c5 (h.resolve_left (by decide))), fun h => .inr (hJ.c12 (h.resolve_left (by decide))), fun h => .inr (hJ.c17 (h.resolve_left (by decide)))⟩⟩⟩
    · rintro on X W (⟨rv, RN, RX, hh, hno, hJ⟩ | ⟨hfin, hall⟩) hn hd
      rotate_left
      · exact absurd (hall 15 (by decide)) hn
      have h0 := hout (X := X) (k := 9) (by rw [← hds]; decide)
      rw [hA9] at h0
      refine op_value (v := .int .i64 at_) (w' := W) ?_ ?_
      · generalize (puts A X ds).eval = ρ at h0 ⊢
        go_simp
      · exact ⟨upd X 109 (.int .i64 at_), puts_put _ (by rw [← hds]; decide), .inl ⟨rv, RN, RX, hh, fun h => hno (h.resolve_left (by decide)), ⟨hJ.low, fun h h2 => hJ.x94 (h.resolve_left (by decide)) (fun h3 => h2 (.inr h3)), fun h h2 => hJ.n94 (h.resolve_left (by decide)) (fun h3 => h2 (.inr h3)), fun h h2 => hJ.l94 (h.resolve_left (by decide)) (fun h3 => h2 (.inr h3)), fun h h2 => hJ.x99 (h.resolve_left (by decide)) (fun h3 => h2 (.inr h3)), fun h h2 => hJ.n99 (h.resolve_left (by decide)) (fun h3 => h2 (.inr h3)), fun h h2 => hJ.l99 (h.resolve_left (by decide)) (fun h3 => h2 (.inr h3)), fun h h2 => hJ.x106 (h.resolve_left (by decide)) (fun h3 => h2 (.inr h3)), fun h h2 => hJ.n106 (h.resolve_left (by decide)) (fun h3 => h2 (.inr h3)), fun h h2 => hJ.l106 (h.resolve_left (by decide)) (fun h3 => h2 (.inr h3)), fun h => hJ.x111 (h.resolve_left (by decide)), fun h => hJ.n111 (h.resolve_left (by decide)), fun h => hJ.l111 (h.resolve_left (by decide)), fun h => hJ.row (h.resolve_left (by decide)), fun h => hJ.sm (h.resolve_left (by decide)), fun h => hJ.x95 (h.resolve_left (by decide)), fun h => hJ.x96 (h.resolve_left (by decide)), fun h => hJ.x97 (h.resolve_left (by decide)), fun h => hJ.x98 (h.resolve_left (by decide)), fun h => hJ.x100 (h.resolve_left (by decide)), fun h => hJ.x101 (h.resolve_left (by decide)), fun h => hJ.x102 (h.resolve_left (by decide)), fun h => hJ.x103 (h.resolve_left (by decide)), fun h => hJ.x104 (h.resolve_left (by decide)), fun h => hJ.x105 (h.resolve_left (by decide)), fun h => hJ.new (h.resolve_left (by decide)), fun h h2 => hJ.dn (h.resolve_left (by decide)) (h2.resolve_left (by decide)), fun h => hJ.x107 (h.resolve_left (by decide)), fun h => hJ.x108 (h.resolve_left (by decide)), fun _ => rfl, fun h => hJ.x110 (h.resolve_left (by decide)), fun h => hJ.x112 (h.resolve_left (by decide)), fun h => .inr (hJ.c5 (h.resolve_left (by decide))), fun h => .inr (hJ.c12 (h.resolve_left (by decide))), fun h => .inr (hJ.c17 (h.resolve_left (by decide)))⟩⟩⟩
    · rintro on X W (⟨rv, RN, RX, hh, hno, hJ⟩ | ⟨hfin, hall⟩) hn hd
      rotate_left
      · exact absurd (hall 16 (by decide)) hn
      have h0 := hin (X := X) (k := 108) (by rw [← hds]; decide)
      rw [hJ.x108 (hd 14 (by kernel_rfl))] at h0
      have h1 := hin (X := X) (k := 109) (by rw [← hds]; decide)
      rw [hJ.x109 (hd 15 (by kernel_rfl))] at h1
      refine op_value (v := .slice (subA 2 go gc at_) (gn - at_) (gc - at_)) (w' := W) ?_ ?_
      · generalize (puts A X ds).eval = ρ at h0 h1 ⊢
        have hac : at_ ≤ gc := by omega
        rcases hgo with ⟨rfl, rfl, rfl, rfl⟩ | ⟨gb, rfl⟩
        · rw [subA_none]
          go_simp
        · rw [subA_some]
          go_simp
      · exact ⟨upd X 110 (.slice (subA 2 go gc at_) (gn - at_) (gc - at_)), puts_put _ (by rw [← hds]; decide), .inl ⟨rv, RN, RX, hh, fun h => hno (h.resolve_left (by decide)), ⟨hJ.low, fun h h2 => hJ.x94 (h.resolve_left (by decide)) (fun h3 => h2 (.inr h3)), fun h h2 => hJ.n94 (h.resolve_left (by decide)) (fun h3 => h2 (.inr h3)), fun h h2 => hJ.l94 (h.resolve_left (by decide)) (fun h3 => h2 (.inr h3)), fun h h2 => hJ.x99 (h.resolve_left (by decide)) (fun h3 => h2 (.inr h3)), fun h h2 => hJ.n99 (h.resolve_left (by decide)) (fun h3 => h2 (.inr h3)), fun h h2 => hJ.l99 (h.resolve_left (by decide)) (fun h3 => h2 (.inr h3)), fun h h2 => hJ.x106 (h.resolve_left (by decide)) (fun h3 => h2 (.inr h3)), fun h h2 => hJ.n106 (h.resolve_left (by decide)) (fun h3 => h2 (.inr h3)), fun h h2 => hJ.l106 (h.resolve_left (by decide)) (fun h3 => h2 (.inr h3)), fun h => hJ.x111 (h.resolve_left (by decide)), fun h => hJ.n111 (h.resolve_left (by decide)), fun h => hJ.l111 (h.resolve_left (by decide)), fun h => hJ.row (h.resolve_left (by decide)), fun h => hJ.sm (h.resolve_left (by decide)), fun h => hJ.x95 (h.resolve_left (by decide)), fun h => hJ.x96 (h.resolve_left (by decide)), fun h => hJ.x97 (h.resolve_left (by decide)), fun h => hJ.x98 (h.resolve_left (by decide)), fun h => hJ.x100 (h.resolve_left (by decide)), fun h => hJ.x101 (h.resolve_left (by decide)), fun h => hJ.x102 (h.resolve_left (by decide)), fun h => hJ.x103 (h.resolve_left (by decide)), fun h => hJ.x104 (h.resolve_left (by decide)), fun h => hJ.x105 (h.resolve_left (by decide)), fun h => hJ.new (h.resolve_left (by decide)), fun h h2 => hJ.dn (h.resolve_left (by decide)) (h2.resolve_left (by decide)), fun h => hJ.x107 (h.resolve_left (by decide)), fun h => hJ.x108 (h.resolve_left (by decide)), fun h => hJ.x109 (h.resolve_left (by decide)), fun _ => rfl, fun h => hJ.x112 (h.resolve_left (by decide)), fun h => .inr (hJ.c5 (h.resolve_left (by decide))), fun h => .inr (hJ.c12 (h.resolve_left (by decide))), fun h => .inr (hJ.c17 (h.resolve_left (by decide)))⟩⟩⟩
    · rintro on X W (⟨rv, RN, RX, hh, hno, hJ⟩ | ⟨hfin, hall⟩) hn hd
      rotate_left
      · exact absurd (hall 17 (by decide)) hn
      have hrow0 := hJ.row (hJ.c5 (hJ.c12 (hd 12 (by kernel_rfl))))
      have hrow := hrow0
      rw [hJ.n106 (hd 12 (by kernel_rfl)) hn, hJ.l106 (hd 12 (by kernel_rfl)) hn] at hrow
      have h0 := hin (X := X) (k := 106) (by rw [← hds]; decide)
      rw [hJ.x106 (hd 12 (by kernel_rfl)) hn] at h0
      have h1 := hin (X := X) (k := 110) (by rw [← hds]; decide)
      rw [hJ.x110 (hd 16 (by kernel_rfl))] at h1
      refine op_appendG Try.underlying68 hi hz0 hz1 hz2 rfl (by decide) (by decide) rfl W0.heap.size rv (0 + at_ + 1) ([] ++ s1 ++ [.int .i64 m.t, .int .i64 m.v]) h0 hrow h1 (s2) hl2 (HS2 W hJ.low) ho2 (by omega) hJ.low.size ?_
      intro v' W' hown hgrow hat
      have f : Fr W W' (fun k => rv.ownBlock = some k) := Fr.grown hgrow (fun k hk => hk)
      have hsm : v'.ownBlock ≠ none := by
        rcases hat with h5 | h5
        · rw [h5]; exact hJ.sm (hJ.c5 (hJ.c12 (hd 12 (by kernel_rfl))))
        · rw [h5]; simp
      have hdn : (11 = 17 ∨ on 11) → v'.ownBlock ≠ some hh := by
        intro h e0
        have h10 := h.resolve_left (by decide)
        rcases hat with h5 | h5
        · exact hJ.dn (hJ.c5 (hJ.c12 (hd 12 (by kernel_rfl)))) h10 (h5.symm.trans e0)
        · have h6 := Option.some.inj (h5.symm.trans e0)
          have := lt_of_block (hJ.new h10)
          omega
      exact ⟨upd X 111 v', puts_put _ (by rw [← hds]; decide), .inl ⟨v', 0 + at_ + 1 + (gn - at_), [] ++ s1 ++ [.int .i64 m.t, .int .i64 m.v] ++ s2, hh, fun h => hno (h.resolve_left (by decide)), ⟨hJ.low.trans (f.below hJ.low.size (fun k hk => (World.ownsRow.lt hrow0 k hk).1)), fun _ h2 => absurd (.inr (hJ.c12 (hd 12 (by kernel_rfl)))) h2, fun _ h2 => absurd (.inr (hJ.c12 (hd 12 (by kernel_rfl)))) h2, fun _ h2 => absurd (.inr (hJ.c12 (hd 12 (by kernel_rfl)))) h2, fun _ h2 => absurd (.inr (hd 12 (by kernel_rfl))) h2, fun _ h2 => absurd (.inr (hd 12 (by kernel_rfl))) h2, fun _ h2 => absurd (.inr (hd 12 (by kernel_rfl))) h2, fun _ h => absurd (.inl rfl) h, fun _ h => absurd (.inl rfl) h, fun _ h => absurd (.inl rfl) h, fun _ => rfl, fun _ => rfl, fun _ => rfl, fun _ => hown, fun _ => hsm, fun h => hJ.x95 (h.resolve_left (by decide)), fun h => hJ.x96 (h.resolve_left (by decide)), fun h => hJ.x97 (h.resolve_left (by decide)), fun h => hJ.x98 (h.resolve_left (by decide)), fun h => hJ.x100 (h.resolve_left (by decide)), fun h => hJ.x101 (h.resolve_left (by decide)), fun h => hJ.x102 (h.resolve_left (by decide)), fun h => hJ.x103 (h.resolve_left (by decide)), fun h => hJ.x104 (h.resolve_left (by decide)), fun h => hJ.x105 (h.resolve_left (by decide)), fun h => (f.block _ (lt_of_block (hJ.new (h.resolve_left (by decide)))) (fun e0 => hJ.dn (hJ.c5 (hJ.c12 (hd 12 (by kernel_rfl)))) (h.resolve_left (by decide)) e0)).trans (hJ.new (h.resolve_left (by decide))), fun _ h => hdn h, fun h => hJ.x107 (h.resolve_left (by decide)), fun h => hJ.x108 (h.resolve_left (by decide)), fun h => hJ.x109 (h.resolve_left (by decide)), fun h => hJ.x110 (h.resolve_left (by decide)), fun h => hJ.x112 (h.resolve_left (by decide)), fun h => .inr (hJ.c5 (h.resolve_left (by decide))), fun h => .inr (hJ.c12 (h.resolve_left (by decide))), fun _ => .inr (hd 12 (by kernel_rfl))⟩⟩⟩
    · rintro on X W (⟨rv, RN, RX, hh, hno, hJ⟩ | ⟨hfin, hall⟩) hn hd
      rotate_left
      · exact absurd (hall 18 (by decide)) hn
      have h0 := hout (X := X) (k := 8) (by rw [← hds]; decide)
      rw [hA8] at h0
      refine op_value (v := .pointer (some ⟨bv, 2, none⟩)) (w' := W) ?_ ?_
      · generalize (puts A X ds).eval = ρ at h0 ⊢
        go_simp
      · exact ⟨upd X 112 (.pointer (some ⟨bv, 2, none⟩)), puts_put _ (by rw [← hds]; decide), .inl ⟨rv, RN, RX, hh, fun h => hno (h.resolve_left (by decide)), ⟨hJ.low, fun h h2 => hJ.x94 (h.resolve_left (by decide)) (fun h3 => h2 (.inr h3)), fun h h2 => hJ.n94 (h.resolve_left (by decide)) (fun h3 => h2 (.inr h3)), fun h h2 => hJ.l94 (h.resolve_left (by decide)) (fun h3 => h2 (.inr h3)), fun h h2 => hJ.x99 (h.resolve_left (by decide)) (fun h3 => h2 (.inr h3)), fun h h2 => hJ.n99 (h.resolve_left (by decide)) (fun h3 => h2 (.inr h3)), fun h h2 => hJ.l99 (h.resolve_left (by decide)) (fun h3 => h2 (.inr h3)), fun h h2 => hJ.x106 (h.resolve_left (by decide)) (fun h3 => h2 (.inr h3)), fun h h2 => hJ.n106 (h.resolve_left (by decide)) (fun h3 => h2 (.inr h3)), fun h h2 => hJ.l106 (h.resolve_left (by decide)) (fun h3 => h2 (.inr h3)), fun h => hJ.x111 (h.resolve_left (by decide)), fun h => hJ.n111 (h.resolve_left (by decide)), fun h => hJ.l111 (h.resolve_left (by decide)), fun h => hJ.row (h.resolve_left (by decide)), fun h => hJ.sm (h.resolve_left (by decide)), fun h => hJ.x95 (h.resolve_left (by decide)), fun h => hJ.x96 (h.resolve_left (by decide)), fun h => hJ.x97 (h.resolve_left (by decide)), fun h => hJ.x98 (h.resolve_left (by decide)), fun h => hJ.x100 (h.resolve_left (by decide)), fun h => hJ.x101 (h.resolve_left (by decide)), fun h => hJ.x102 (h.resolve_left (by decide)), fun h => hJ.x103 (h.resolve_left (by decide)), fun h => hJ.x104 (h.resolve_left (by decide)), fun h => hJ.x105 (h.resolve_left (by decide)), fun h => hJ.new (h.resolve_left (by decide)), fun h h2 => hJ.dn (h.resolve_left (by decide)) (h2.resolve_left (by decide)), fun h => hJ.x107 (h.resolve_left (by decide)), fun h => hJ.x108 (h.resolve_left (by decide)), fun h => hJ.x109 (h.resolve_left (by decide)), fun h => hJ.x110 (h.resolve_left (by decide)), fun _ => rfl, fun h => .inr (hJ.c5 (h.resolve_left (by decide))), fun h => .inr (hJ.c12 (h.resolve_left (by decide))), fun h => .inr (hJ.c17 (h.resolve_left (by decide)))⟩⟩⟩
    · rintro on X W (⟨rv, RN, RX, hh, hno, hJ⟩ | ⟨hfin, hall⟩) hn hd
      rotate_left
      · exact absurd hfin.1 hn
      have h0 := hin (X := X) (k := 112) (by rw [← hds]; decide)
      rw [hJ.x112 (hd 18 (by kernel_rfl))] at h0
      have h1 := hin (X := X) (k := 111) (by rw [← hds]; decide)
      rw [hJ.x111 (hd 17 (by kernel_rfl))] at h1
      have hrow := hJ.row (hJ.c5 (hJ.c12 (hJ.c17 (hd 17 (by kernel_rfl)))))
      rw [hJ.n111 (hd 17 (by kernel_rfl)), hJ.l111 (hd 17 (by kernel_rfl))] at hrow
      have z0 := HZ0 W hJ.low
      have z1 := HZ1 W hJ.low
      obtain ⟨o2, m2, c2, hrv⟩ := own_anyU hrow
      have hall : ∀ k, k < 19 → on k := by
        intro k hk
        have h9 : k = 0 ∨ k = 1 ∨ k = 2 ∨ k = 3 ∨ k = 4 ∨ k = 5 ∨ k = 6 ∨ k = 7 ∨ k = 8 ∨ k = 9 ∨ k = 10 ∨ k = 11 ∨ k = 12 ∨ k = 13 ∨ k = 14 ∨ k = 15 ∨ k = 16 ∨ k = 17 ∨ k = 18 := by omega
        rcases h9 with rfl | rfl | rfl | rfl | rfl | rfl | rfl | rfl | rfl | rfl | rfl | rfl | rfl | rfl | rfl | rfl | rfl | rfl | rfl
        · exact (hd 0 (by kernel_rfl))
        · exact (hd 1 (by kernel_rfl))
        · exact (hd 2 (by kernel_rfl))
        · exact (hd 3 (by kernel_rfl))
        · exact (hd 4 (by kernel_rfl))
        · exact (hd 5 (by kernel_rfl))
        · exact (hd 6 (by kernel_rfl))
        · exact (hd 7 (by kernel_rfl))
        · exact (hd 8 (by kernel_rfl))
        · exact (hd 9 (by kernel_rfl))
        · exact (hd 10 (by kernel_rfl))
        · exact (hd 11 (by kernel_rfl))
        · exact (hd 12 (by kernel_rfl))
        · exact (hd 13 (by kernel_rfl))
        · exact (hd 14 (by kernel_rfl))
        · exact (hd 15 (by kernel_rfl))
        · exact (hd 16 (by kernel_rfl))
        · exact (hd 17 (by kernel_rfl))
        · exact (hd 18 (by kernel_rfl))
      refine op_skip (w' := W.setCell ⟨bv, 2, none⟩ rv) ?_ ?_
      · generalize (puts A X ds).eval = ρ at h0 h1 ⊢
        rw [hrv] at h1 ⊢
        go_simp
      · exact ⟨X, rfl, .inr ⟨⟨.inl rfl, W, rv, hrow, hJ.low, rfl⟩, fun k hk => .inr (hall k hk)⟩⟩

end Go.Proofs.Ythnhmhjcpdomcaa
