/- A request is laid at its place: region 8 of the document's Apply. -/
import Derived.Test.YthnhmhjcpdomcaaRegApp
import Derived.Test.YthnhmhjcpdomcaaGrRef
import Derived.Test.YthnhmhjcpdomcaaGrRefKM
namespace Go.Proofs.Ythnhmhjcpdomcaa
open Go.RowKit Go.Sort
structure Japply_r8 (W0 : World) (go : Option Addr) (gn gc at_ lb loff ln lc ii : Nat) (m : Mu) (s1 s2 : List Value) (on : Nat → Prop) (X : Nat → Value) (W : World) (rv : Value) (RN : Nat) (RX : List Value) (hh : Nat) : Prop where
  low : Below W0.heap.size W0 W
  x39 : on 0 → ¬ on 4 → X 39 = rv
  n39 : on 0 → ¬ on 4 → RN = 0
  l39 : on 0 → ¬ on 4 → RX = []
  x43 : on 4 → ¬ on 10 → X 43 = rv
  n43 : on 4 → ¬ on 10 → RN = 0 + at_
  l43 : on 4 → ¬ on 10 → RX = [] ++ s1
  x49 : on 10 → ¬ on 14 → X 49 = rv
  n49 : on 10 → ¬ on 14 → RN = 0 + at_ + 1
  l49 : on 10 → ¬ on 14 → RX = [] ++ s1 ++ [.int .i64 m.k, .int .i64 m.i, .int .i64 m.t, .int .i64 m.v]
  x53 : on 14 → X 53 = rv
  n53 : on 14 → RN = 0 + at_ + 1 + (gn - at_)
  l53 : on 14 → RX = [] ++ s1 ++ [.int .i64 m.k, .int .i64 m.i, .int .i64 m.t, .int .i64 m.v] ++ s2
  row : on 0 → W.ownsRow W0.heap.size 45 4 rv RN RX
  sm : on 0 → rv.ownBlock ≠ none
  x40 : on 1 → X 40 = .slice go gn gc
  x41 : on 2 → X 41 = .int .i64 at_
  x42 : on 3 → X 42 = .slice go at_ gc
  x44 : on 5 → X 44 = .slice (some ⟨lb, loff, none⟩) ln lc
  x45 : on 6 → X 45 = .int .i64 ii
  x46 : on 7 → X 46 = .pointer (some ⟨lb, loff + ii * 4, none⟩)
  x47 : on 8 → X 47 = .agg #[.int .i64 m.k, .int .i64 m.i, .int .i64 m.t, .int .i64 m.v]
  x48 : on 9 → X 48 = .slice (some ⟨hh, 0, none⟩) 1 1
  new : on 9 → W.heap[hh]? = some (.cells #[.int .i64 m.k, .int .i64 m.i, .int .i64 m.t, .int .i64 m.v] 45 (0, 0))
  dn : on 0 → on 9 → rv.ownBlock ≠ some hh
  x50 : on 11 → X 50 = .slice go gn gc
  x51 : on 12 → X 51 = .int .i64 at_
  x52 : on 13 → X 52 = .slice (subA 4 go gc at_) (gn - at_) (gc - at_)
  x6 : on 15 → X 6 = rv
  c4 : on 4 → on 0
  c10 : on 10 → on 4
  c14 : on 14 → on 10
  c15 : on 15 → on 14
  o6 : ¬ on 15 → X 6 = .slice go gn gc
  k15_1 : on 15 → on 1
  k15_11 : on 15 → on 11
set_option maxRecDepth 100000 in
set_option maxHeartbeats 4000000 in
theorem apply_r8 {W0 : World} {A : Act} {go : Option Addr} {gn gc at_ lb loff ln lc ii : Nat} {m : Mu} {s1 s2 : List Value} {Q : Exit → Act → World → Prop} (hsz : A.tmps.size = 111)
    (hA6 : A.eval (.tmp 6) = .slice go gn gc) (hA8 : A.eval (.tmp 8) = .int .i64 at_) (hA1 : A.eval (.tmp 1) = .slice (some ⟨lb, loff, none⟩) ln lc) (hA7 : A.eval (.tmp 7) = .int .i64 ii) (hii : ii < ln) (hgo : (go = none ∧ gn = 0 ∧ gc = 0 ∧ at_ = 0) ∨ ∃ gb, go = some ⟨gb, 0, none⟩) (hat : at_ ≤ gn) (hgc : gn ≤ gc) (hgn : gn ≤ 1000000) (HC : ∀ W, Below W0.heap.size W0 W → UC W lb (loff + ii * 4) m) (hl1 : s1.length = (at_) * 4) (HS1 : ∀ W, Below W0.heap.size W0 W → SrcF W (go) (at_) s1) (ho1 : ∀ u ∈ s1, u.oneCell' = true) (hl2 : s2.length = (gn - at_) * 4) (HS2 : ∀ W, Below W0.heap.size W0 W → SrcF W (subA 4 go gc at_) (gn - at_) s2) (ho2 : ∀ u ∈ s2, u.oneCell' = true)
    (HK : ∀ X W rv, X 6 = rv → W.ownsRow W0.heap.size 45 4 rv (0 + at_ + 1 + (gn - at_)) ([] ++ s1 ++ [.int .i64 m.k, .int .i64 m.i, .int .i64 m.t, .int .i64 m.v] ++ s2) → rv.ownBlock ≠ none → Below W0.heap.size W0 W → Q .normal (puts A X [6, 39, 40, 41, 42, 43, 44, 45, 46, 47, 48, 49, 50, 51, 52, 53]) W) :
    Code.wp Try.prog ((Try.f17.body.bind (regionJ 8)).getD .skip) Q A W0 := by
  obtain ⟨i0, hi, hz0, hz1, hz2⟩ := info_parts infoRMu
  have hin : ∀ {X : Nat → Value} {k : Nat}, k ∈ [6, 39, 40, 41, 42, 43, 44, 45, 46, 47, 48, 49, 50, 51, 52, 53] → (puts A X [6, 39, 40, 41, 42, 43, 44, 45, 46, 47, 48, 49, 50, 51, 52, 53]).eval (.tmp k) = X k := fun hk => eval_in hk (by
    rw [hsz]; revert hk; simp only [List.mem_cons, List.not_mem_nil, or_false]; omega)
  have hout : ∀ {X : Nat → Value} {k : Nat}, k ∉ [6, 39, 40, 41, 42, 43, 44, 45, 46, 47, 48, 49, 50, 51, 52, 53] → (puts A X [6, 39, 40, 41, 42, 43, 44, 45, 46, 47, 48, 49, 50, 51, 52, 53]).eval (.tmp k) = A.eval (.tmp k) := fun hk => eval_out hk
  generalize hds : [6, 39, 40, 41, 42, 43, 44, 45, 46, 47, 48, 49, 50, 51, 52, 53] = ds at *
  conv => arg 2; whnf
  refine wp_region_J ds (fun on X W => ∃ rv RN RX hh, Japply_r8 W0 go gn gc at_ lb loff ln lc ii m s1 s2 on X W rv RN RX hh) (by kernel_rfl) (by kernel_rfl) ?start ?steps ?done
  case start =>
    refine ⟨.bool false, 0, [], 0, ?_⟩
    constructor
    · exact ⟨rfl, rfl, rfl, Nat.le_refl _, fun _ _ => rfl⟩
    all_goals first | exact fun h => h.elim | exact fun _ => hA6
  case done =>
    rintro on X W ⟨rv, RN, RX, hh, hJ⟩ hall
    have hrow := hJ.row (hall 0 (by decide))
    rw [hJ.n53 (hall 14 (by decide)), hJ.l53 (hall 14 (by decide))] at hrow
    exact HK X W rv (hJ.x6 (hall 15 (by decide))) hrow (hJ.sm (hall 0 (by decide))) hJ.low
  case steps =>
    refine ⟨?_, ?_, ?_, ?_, ?_, ?_, ?_, ?_, ?_, ?_, ?_, ?_, ?_, ?_, ?_, ?_, trivial⟩
    · rintro on X W ⟨rv, RN, RX, hh, hJ⟩ hn hd
      have hb : Below W.heap.size W (W.alloc (.cells #[] 45)) := one_newU _ _
      refine op_value (v := .slice (some ⟨W.heap.size, 0, none⟩) 0 0) (w' := W.alloc (.cells #[] 45)) ?_ ?_
      · generalize (puts A X ds).eval = ρ
        go_simp
      · exact ⟨upd X 39 (.slice (some ⟨W.heap.size, 0, none⟩) 0 0), puts_put _ (by rw [← hds]; decide), ⟨.slice (some ⟨W.heap.size, 0, none⟩) 0 0, 0, [], hh, ⟨hJ.low.trans (hb.mono hJ.low.size), fun _ _ => rfl, fun _ _ => rfl, fun _ _ => rfl, fun h _ => absurd (hJ.c4 (h.resolve_left (by decide))) hn, fun h _ => absurd (hJ.c4 (h.resolve_left (by decide))) hn, fun h _ => absurd (hJ.c4 (h.resolve_left (by decide))) hn, fun h _ => absurd (hJ.c4 (hJ.c10 (h.resolve_left (by decide)))) hn, fun h _ => absurd (hJ.c4 (hJ.c10 (h.resolve_left (by decide)))) hn, fun h _ => absurd (hJ.c4 (hJ.c10 (h.resolve_left (by decide)))) hn, fun h => absurd (hJ.c4 (hJ.c10 (hJ.c14 (h.resolve_left (by decide))))) hn, fun h => absurd (hJ.c4 (hJ.c10 (hJ.c14 (h.resolve_left (by decide))))) hn, fun h => absurd (hJ.c4 (hJ.c10 (hJ.c14 (h.resolve_left (by decide))))) hn, fun _ => own_empty hJ.low.size, fun _ e0 => (by cases e0), fun h => hJ.x40 (h.resolve_left (by decide)), fun h => hJ.x41 (h.resolve_left (by decide)), fun h => hJ.x42 (h.resolve_left (by decide)), fun h => hJ.x44 (h.resolve_left (by decide)), fun h => hJ.x45 (h.resolve_left (by decide)), fun h => hJ.x46 (h.resolve_left (by decide)), fun h => hJ.x47 (h.resolve_left (by decide)), fun h => hJ.x48 (h.resolve_left (by decide)), fun h => (hb.block _ (lt_of_block (hJ.new (h.resolve_left (by decide))))).trans (hJ.new (h.resolve_left (by decide))), fun _ h e0 => by have := lt_of_block (hJ.new (h.resolve_left (by decide))); have h9 : W.heap.size = hh := Option.some.inj e0; omega, fun h => hJ.x50 (h.resolve_left (by decide)), fun h => hJ.x51 (h.resolve_left (by decide)), fun h => hJ.x52 (h.resolve_left (by decide)), fun h => absurd (hJ.c4 (hJ.c10 (hJ.c14 (hJ.c15 (h.resolve_left (by decide)))))) hn, fun h => .inr (hJ.c4 (h.resolve_left (by decide))), fun h => .inr (hJ.c10 (h.resolve_left (by decide))), fun h => .inr (hJ.c14 (h.resolve_left (by decide))), fun h => .inr (hJ.c15 (h.resolve_left (by decide))), fun h => hJ.o6 (fun h3 => h (.inr h3)), fun h => .inr (hJ.k15_1 (h.resolve_left (by decide))), fun h => .inr (hJ.k15_11 (h.resolve_left (by decide)))⟩⟩⟩
    · rintro on X W ⟨rv, RN, RX, hh, hJ⟩ hn hd
      have h0 := hin (X := X) (k := 6) (by rw [← hds]; decide)
      rw [hJ.o6 (fun h => hn (hJ.k15_1 h))] at h0
      refine op_value (v := .slice go gn gc) (w' := W) ?_ ?_
      · generalize (puts A X ds).eval = ρ at h0 ⊢
        go_simp
      · exact ⟨upd X 40 (.slice go gn gc), puts_put _ (by rw [← hds]; decide), ⟨rv, RN, RX, hh, ⟨hJ.low, fun h h2 => hJ.x39 (h.resolve_left (by decide)) (fun h3 => h2 (.inr h3)), fun h h2 => hJ.n39 (h.resolve_left (by decide)) (fun h3 => h2 (.inr h3)), fun h h2 => hJ.l39 (h.resolve_left (by decide)) (fun h3 => h2 (.inr h3)), fun h h2 => hJ.x43 (h.resolve_left (by decide)) (fun h3 => h2 (.inr h3)), fun h h2 => hJ.n43 (h.resolve_left (by decide)) (fun h3 => h2 (.inr h3)), fun h h2 => hJ.l43 (h.resolve_left (by decide)) (fun h3 => h2 (.inr h3)), fun h h2 => hJ.x49 (h.resolve_left (by decide)) (fun h3 => h2 (.inr h3)), fun h h2 => hJ.n49 (h.resolve_left (by decide)) (fun h3 => h2 (.inr h3)), fun h h2 => hJ.l49 (h.resolve_left (by decide)) (fun h3 => h2 (.inr h3)), fun h => hJ.x53 (h.resolve_left (by decide)), fun h => hJ.n53 (h.resolve_left (by decide)), fun h => hJ.l53 (h.resolve_left (by decide)), fun h => hJ.row (h.resolve_left (by decide)), fun h => hJ.sm (h.resolve_left (by decide)), fun _ => rfl, fun h => hJ.x41 (h.resolve_left (by decide)), fun h => hJ.x42 (h.resolve_left (by decide)), fun h => hJ.x44 (h.resolve_left (by decide)), fun h => hJ.x45 (h.resolve_left (by decide)), fun h => hJ.x46 (h.resolve_left (by decide)), fun h => hJ.x47 (h.resolve_left (by decide)), fun h => hJ.x48 (h.resolve_left (by decide)), fun h => hJ.new (h.resolve_left (by decide)), fun h h2 => hJ.dn (h.resolve_left (by decide)) (h2.resolve_left (by decide)), fun h => hJ.x50 (h.resolve_left (by decide)), fun h => hJ.x51 (h.resolve_left (by decide)), fun h => hJ.x52 (h.resolve_left (by decide)), fun h => hJ.x6 (h.resolve_left (by decide)), fun h => .inr (hJ.c4 (h.resolve_left (by decide))), fun h => .inr (hJ.c10 (h.resolve_left (by decide))), fun h => .inr (hJ.c14 (h.resolve_left (by decide))), fun h => .inr (hJ.c15 (h.resolve_left (by decide))), fun h => hJ.o6 (fun h3 => h (.inr h3)), fun h => .inr (hJ.k15_1 (h.resolve_left (by decide))), fun h => .inr (hJ.k15_11 (h.resolve_left (by decide)))⟩⟩⟩
    · rintro on X W ⟨rv, RN, RX, hh, hJ⟩ hn hd
      have h0 := hout (X := X) (k := 8) (by rw [← hds]; decide)
      rw [hA8] at h0
      refine op_value (v := .int .i64 at_) (w' := W) ?_ ?_
      · generalize (puts A X ds).eval = ρ at h0 ⊢
        go_simp
      · exact ⟨upd X 41 (.int .i64 at_), puts_put _ (by rw [← hds]; decide), ⟨rv, RN, RX, hh, ⟨hJ.low, fun h h2 => hJ.x39 (h.resolve_left (by decide)) (fun h3 => h2 (.inr h3)), fun h h2 => hJ.n39 (h.resolve_left (by decide)) (fun h3 => h2 (.inr h3)), fun h h2 => hJ.l39 (h.resolve_left (by decide)) (fun h3 => h2 (.inr h3)), fun h h2 => hJ.x43 (h.resolve_left (by decide)) (fun h3 => h2 (.inr h3)), fun h h2 => hJ.n43 (h.resolve_left (by decide)) (fun h3 => h2 (.inr h3)), fun h h2 => hJ.l43 (h.resolve_left (by decide)) (fun h3 => h2 (.inr h3)), fun h h2 => hJ.x49 (h.resolve_left (by decide)) (fun h3 => h2 (.inr h3)), fun h h2 => hJ.n49 (h.resolve_left (by decide)) (fun h3 => h2 (.inr h3)), fun h h2 => hJ.l49 (h.resolve_left (by decide)) (fun h3 => h2 (.inr h3)), fun h => hJ.x53 (h.resolve_left (by decide)), fun h => hJ.n53 (h.resolve_left (by decide)), fun h => hJ.l53 (h.resolve_left (by decide)), fun h => hJ.row (h.resolve_left (by decide)), fun h => hJ.sm (h.resolve_left (by decide)), fun h => hJ.x40 (h.resolve_left (by decide)), fun _ => rfl, fun h => hJ.x42 (h.resolve_left (by decide)), fun h => hJ.x44 (h.resolve_left (by decide)), fun h => hJ.x45 (h.resolve_left (by decide)), fun h => hJ.x46 (h.resolve_left (by decide)), fun h => hJ.x47 (h.resolve_left (by decide)), fun h => hJ.x48 (h.resolve_left (by decide)), fun h => hJ.new (h.resolve_left (by decide)), fun h h2 => hJ.dn (h.resolve_left (by decide)) (h2.resolve_left (by decide)), fun h => hJ.x50 (h.resolve_left (by decide)), fun h => hJ.x51 (h.resolve_left (by decide)), fun h => hJ.x52 (h.resolve_left (by decide)), fun h => hJ.x6 (h.resolve_left (by decide)), fun h => .inr (hJ.c4 (h.resolve_left (by decide))), fun h => .inr (hJ.c10 (h.resolve_left (by decide))), fun h => .inr (hJ.c14 (h.resolve_left (by decide))), fun h => .inr (hJ.c15 (h.resolve_left (by decide))), fun h => hJ.o6 (fun h3 => h (.inr h3)), fun h => .inr (hJ.k15_1 (h.resolve_left (by decide))), fun h => .inr (hJ.k15_11 (h.resolve_left (by decide)))⟩⟩⟩
    · rintro on X W ⟨rv, RN, RX, hh, hJ⟩ hn hd
      have h0 := hin (X := X) (k := 40) (by rw [← hds]; decide)
      rw [hJ.x40 (hd 1 (by kernel_rfl))] at h0
      have h1 := hin (X := X) (k := 41) (by rw [← hds]; decide)
      rw [hJ.x41 (hd 2 (by kernel_rfl))] at h1
      refine op_value (v := .slice go at_ gc) (w' := W) ?_ ?_
      · generalize (puts A X ds).eval = ρ at h0 h1 ⊢
        have hac : at_ ≤ gc := by omega
        rcases hgo with ⟨rfl, rfl, rfl, rfl⟩ | ⟨gb, rfl⟩
        · go_simp
        · go_simp
      · exact ⟨upd X 42 (.slice go at_ gc), puts_put _ (by rw [← hds]; decide), ⟨rv, RN, RX, hh, ⟨hJ.low, fun h h2 => hJ.x39 (h.resolve_left (by decide)) (fun h3 => h2 (.inr h3)), fun h h2 => hJ.n39 (h.resolve_left (by decide)) (fun h3 => h2 (.inr h3)), fun h h2 => hJ.l39 (h.resolve_left (by decide)) (fun h3 => h2 (.inr h3)), fun h h2 => hJ.x43 (h.resolve_left (by decide)) (fun h3 => h2 (.inr h3)), fun h h2 => hJ.n43 (h.resolve_left (by decide)) (fun h3 => h2 (.inr h3)), fun h h2 => hJ.l43 (h.resolve_left (by decide)) (fun h3 => h2 (.inr h3)), fun h h2 => hJ.x49 (h.resolve_left (by decide)) (fun h3 => h2 (.inr h3)), fun h h2 => hJ.n49 (h.resolve_left (by decide)) (fun h3 => h2 (.inr h3)), fun h h2 => hJ.l49 (h.resolve_left (by decide)) (fun h3 => h2 (.inr h3)), fun h => hJ.x53 (h.resolve_left (by decide)), fun h => hJ.n53 (h.resolve_left (by decide)), fun h => hJ.l53 (h.resolve_left (by decide)), fun h => hJ.row (h.resolve_left (by decide)), fun h => hJ.sm (h.resolve_left (by decide)), fun h => hJ.x40 (h.resolve_left (by decide)), fun h => hJ.x41 (h.resolve_left (by decide)), fun _ => rfl, fun h => hJ.x44 (h.resolve_left (by decide)), fun h => hJ.x45 (h.resolve_left (by decide)), fun h => hJ.x46 (h.resolve_left (by decide)), fun h => hJ.x47 (h.resolve_left (by decide)), fun h => hJ.x48 (h.resolve_left (by decide)), fun h => hJ.new (h.resolve_left (by decide)), fun h h2 => hJ.dn (h.resolve_left (by decide)) (h2.resolve_left (by decide)), fun h => hJ.x50 (h.resolve_left (by decide)), fun h => hJ.x51 (h.resolve_left (by decide)), fun h => hJ.x52 (h.resolve_left (by decide)), fun h => hJ.x6 (h.resolve_left (by decide)), fun h => .inr (hJ.c4 (h.resolve_left (by decide))), fun h => .inr (hJ.c10 (h.resolve_left (by decide))), fun h => .inr (hJ.c14 (h.resolve_left (by decide))), fun h => .inr (hJ.c15 (h.resolve_left (by decide))), fun h => hJ.o6 (fun h3 => h (.inr h3)), fun h => .inr (hJ.k15_1 (h.resolve_left (by decide))), fun h => .inr (hJ.k15_11 (h.resolve_left (by decide)))⟩⟩⟩
    · rintro on X W ⟨rv, RN, RX, hh, hJ⟩ hn hd
      have hrow0 := hJ.row (hd 0 (by kernel_rfl))
      have hrow := hrow0
      rw [hJ.n39 (hd 0 (by kernel_rfl)) hn, hJ.l39 (hd 0 (by kernel_rfl)) hn] at hrow
      have h0 := hin (X := X) (k := 39) (by rw [← hds]; decide)
      rw [hJ.x39 (hd 0 (by kernel_rfl)) hn] at h0
      have h1 := hin (X := X) (k := 42) (by rw [← hds]; decide)
      rw [hJ.x42 (hd 3 (by kernel_rfl))] at h1
      refine op_appendG Try.underlying42 hi hz0 hz1 hz2 rfl (by decide) (by decide) rfl W0.heap.size rv (0) ([]) h0 hrow h1 (s1) hl1 (HS1 W hJ.low) ho1 (by omega) hJ.low.size ?_
      intro v' W' hown hgrow hat
      have f : Fr W W' (fun k => rv.ownBlock = some k) := Fr.grown hgrow (fun k hk => hk)
      have hsm : v'.ownBlock ≠ none := by
        rcases hat with h5 | h5
        · rw [h5]; exact hJ.sm (hd 0 (by kernel_rfl))
        · rw [h5]; simp
      have hdn : (9 = 4 ∨ on 9) → v'.ownBlock ≠ some hh := by
        intro h e0
        have h10 := h.resolve_left (by decide)
        rcases hat with h5 | h5
        · exact hJ.dn (hd 0 (by kernel_rfl)) h10 (h5.symm.trans e0)
        · have h6 := Option.some.inj (h5.symm.trans e0)
          have := lt_of_block (hJ.new h10)
          omega
      exact ⟨upd X 43 v', puts_put _ (by rw [← hds]; decide), ⟨v', 0 + at_, [] ++ s1, hh, ⟨hJ.low.trans (f.below hJ.low.size (fun k hk => (World.ownsRow.lt hrow0 k hk).1)), fun _ h => absurd (.inl rfl) h, fun _ h => absurd (.inl rfl) h, fun _ h => absurd (.inl rfl) h, fun _ _ => rfl, fun _ _ => rfl, fun _ _ => rfl, fun h _ => absurd (hJ.c10 (h.resolve_left (by decide))) hn, fun h _ => absurd (hJ.c10 (h.resolve_left (by decide))) hn, fun h _ => absurd (hJ.c10 (h.resolve_left (by decide))) hn, fun h => absurd (hJ.c10 (hJ.c14 (h.resolve_left (by decide)))) hn, fun h => absurd (hJ.c10 (hJ.c14 (h.resolve_left (by decide)))) hn, fun h => absurd (hJ.c10 (hJ.c14 (h.resolve_left (by decide)))) hn, fun _ => hown, fun _ => hsm, fun h => hJ.x40 (h.resolve_left (by decide)), fun h => hJ.x41 (h.resolve_left (by decide)), fun h => hJ.x42 (h.resolve_left (by decide)), fun h => hJ.x44 (h.resolve_left (by decide)), fun h => hJ.x45 (h.resolve_left (by decide)), fun h => hJ.x46 (h.resolve_left (by decide)), fun h => hJ.x47 (h.resolve_left (by decide)), fun h => hJ.x48 (h.resolve_left (by decide)), fun h => (f.block _ (lt_of_block (hJ.new (h.resolve_left (by decide)))) (fun e0 => hJ.dn (hd 0 (by kernel_rfl)) (h.resolve_left (by decide)) e0)).trans (hJ.new (h.resolve_left (by decide))), fun _ h => hdn h, fun h => hJ.x50 (h.resolve_left (by decide)), fun h => hJ.x51 (h.resolve_left (by decide)), fun h => hJ.x52 (h.resolve_left (by decide)), fun h => absurd (hJ.c10 (hJ.c14 (hJ.c15 (h.resolve_left (by decide))))) hn, fun _ => .inr (hd 0 (by kernel_rfl)), fun h => .inr (hJ.c10 (h.resolve_left (by decide))), fun h => .inr (hJ.c14 (h.resolve_left (by decide))), fun h => .inr (hJ.c15 (h.resolve_left (by decide))), fun h => hJ.o6 (fun h3 => h (.inr h3)), fun h => .inr (hJ.k15_1 (h.resolve_left (by decide))), fun h => .inr (hJ.k15_11 (h.resolve_left (by decide)))⟩⟩⟩
    · rintro on X W ⟨rv, RN, RX, hh, hJ⟩ hn hd
      have h0 := hout (X := X) (k := 1) (by rw [← hds]; decide)
      rw [hA1] at h0
      refine op_value (v := .slice (some ⟨lb, loff, none⟩) ln lc) (w' := W) ?_ ?_
      · generalize (puts A X ds).eval = ρ at h0 ⊢
        go_simp
      · exact ⟨upd X 44 (.slice (some ⟨lb, loff, none⟩) ln lc), puts_put _ (by rw [← hds]; decide), ⟨rv, RN, RX, hh, ⟨hJ.low, fun h h2 => hJ.x39 (h.resolve_left (by decide)) (fun h3 => h2 (.inr h3)), fun h h2 => hJ.n39 (h.resolve_left (by decide)) (fun h3 => h2 (.inr h3)), fun h h2 => hJ.l39 (h.resolve_left (by decide)) (fun h3 => h2 (.inr h3)), fun h h2 => hJ.x43 (h.resolve_left (by decide)) (fun h3 => h2 (.inr h3)), fun h h2 => hJ.n43 (h.resolve_left (by decide)) (fun h3 => h2 (.inr h3)), fun h h2 => hJ.l43 (h.resolve_left (by decide)) (fun h3 => h2 (.inr h3)), fun h h2 => hJ.x49 (h.resolve_left (by decide)) (fun h3 => h2 (.inr h3)), fun h h2 => hJ.n49 (h.resolve_left (by decide)) (fun h3 => h2 (.inr h3)), fun h h2 => hJ.l49 (h.resolve_left (by decide)) (fun h3 => h2 (.inr h3)), fun h => hJ.x53 (h.resolve_left (by decide)), fun h => hJ.n53 (h.resolve_left (by decide)), fun h => hJ.l53 (h.resolve_left (by decide)), fun h => hJ.row (h.resolve_left (by decide)), fun h => hJ.sm (h.resolve_left (by decide)), fun h => hJ.x40 (h.resolve_left (by decide)), fun h => hJ.x41 (h.resolve_left (by decide)), fun h => hJ.x42 (h.resolve_left (by decide)), fun _ => rfl, fun h => hJ.x45 (h.resolve_left (by decide)), fun h => hJ.x46 (h.resolve_left (by decide)), fun h => hJ.x47 (h.resolve_left (by decide)), fun h => hJ.x48 (h.resolve_left (by decide)), fun h => hJ.new (h.resolve_left (by decide)), fun h h2 => hJ.dn (h.resolve_left (by decide)) (h2.resolve_left (by decide)), fun h => hJ.x50 (h.resolve_left (by decide)), fun h => hJ.x51 (h.resolve_left (by decide)), fun h => hJ.x52 (h.resolve_left (by decide)), fun h => hJ.x6 (h.resolve_left (by decide)), fun h => .inr (hJ.c4 (h.resolve_left (by decide))), fun h => .inr (hJ.c10 (h.resolve_left (by decide))), fun h => .inr (hJ.c14 (h.resolve_left (by decide))), fun h => .inr (hJ.c15 (h.resolve_left (by decide))), fun h => hJ.o6 (fun h3 => h (.inr h3)), fun h => .inr (hJ.k15_1 (h.resolve_left (by decide))), fun h => .inr (hJ.k15_11 (h.resolve_left (by decide)))⟩⟩⟩
    · rintro on X W ⟨rv, RN, RX, hh, hJ⟩ hn hd
      have h0 := hout (X := X) (k := 7) (by rw [← hds]; decide)
      rw [hA7] at h0
      refine op_value (v := .int .i64 ii) (w' := W) ?_ ?_
      · generalize (puts A X ds).eval = ρ at h0 ⊢
        go_simp
      · exact ⟨upd X 45 (.int .i64 ii), puts_put _ (by rw [← hds]; decide), ⟨rv, RN, RX, hh, ⟨hJ.low, fun h h2 => hJ.x39 (h.resolve_left (by decide)) (fun h3 => h2 (.inr h3)), fun h h2 => hJ.n39 (h.resolve_left (by decide)) (fun h3 => h2 (.inr h3)), fun h h2 => hJ.l39 (h.resolve_left (by decide)) (fun h3 => h2 (.inr h3)), fun h h2 => hJ.x43 (h.resolve_left (by decide)) (fun h3 => h2 (.inr h3)), fun h h2 => hJ.n43 (h.resolve_left (by decide)) (fun h3 => h2 (.inr h3)), fun h h2 => hJ.l43 (h.resolve_left (by decide)) (fun h3 => h2 (.inr h3)), fun h h2 => hJ.x49 (h.resolve_left (by decide)) (fun h3 => h2 (.inr h3)), fun h h2 => hJ.n49 (h.resolve_left (by decide)) (fun h3 => h2 (.inr h3)), fun h h2 => hJ.l49 (h.resolve_left (by decide)) (fun h3 => h2 (.inr h3)), fun h => hJ.x53 (h.resolve_left (by decide)), fun h => hJ.n53 (h.resolve_left (by decide)), fun h => hJ.l53 (h.resolve_left (by decide)), fun h => hJ.row (h.resolve_left (by decide)), fun h => hJ.sm (h.resolve_left (by decide)), fun h => hJ.x40 (h.resolve_left (by decide)), fun h => hJ.x41 (h.resolve_left (by decide)), fun h => hJ.x42 (h.resolve_left (by decide)), fun h => hJ.x44 (h.resolve_left (by decide)), fun _ => rfl, fun h => hJ.x46 (h.resolve_left (by decide)), fun h => hJ.x47 (h.resolve_left (by decide)), fun h => hJ.x48 (h.resolve_left (by decide)), fun h => hJ.new (h.resolve_left (by decide)), fun h h2 => hJ.dn (h.resolve_left (by decide)) (h2.resolve_left (by decide)), fun h => hJ.x50 (h.resolve_left (by decide)), fun h => hJ.x51 (h.resolve_left (by decide)), fun h => hJ.x52 (h.resolve_left (by decide)), fun h => hJ.x6 (h.resolve_left (by decide)), fun h => .inr (hJ.c4 (h.resolve_left (by decide))), fun h => .inr (hJ.c10 (h.resolve_left (by decide))), fun h => .inr (hJ.c14 (h.resolve_left (by decide))), fun h => .inr (hJ.c15 (h.resolve_left (by decide))), fun h => hJ.o6 (fun h3 => h (.inr h3)), fun h => .inr (hJ.k15_1 (h.resolve_left (by decide))), fun h => .inr (hJ.k15_11 (h.resolve_left (by decide)))⟩⟩⟩
    · rintro on X W ⟨rv, RN, RX, hh, hJ⟩ hn hd
      have h0 := hin (X := X) (k := 44) (by rw [← hds]; decide)
      rw [hJ.x44 (hd 5 (by kernel_rfl))] at h0
      have h1 := hin (X := X) (k := 45) (by rw [← hds]; decide)
      rw [hJ.x45 (hd 6 (by kernel_rfl))] at h1
      refine op_value (v := .pointer (some ⟨lb, loff + ii * 4, none⟩)) (w' := W) ?_ ?_
      · generalize (puts A X ds).eval = ρ at h0 h1 ⊢
        go_simp
      · exact ⟨upd X 46 (.pointer (some ⟨lb, loff + ii * 4, none⟩)), puts_put _ (by rw [← hds]; decide), ⟨rv, RN, RX, hh, ⟨hJ.low, fun h h2 => hJ.x39 (h.resolve_left (by decide)) (fun h3 => h2 (.inr h3)), fun h h2 => hJ.n39 (h.resolve_left (by decide)) (fun h3 => h2 (.inr h3)), fun h h2 => hJ.l39 (h.resolve_left (by decide)) (fun h3 => h2 (.inr h3)), fun h h2 => hJ.x43 (h.resolve_left (by decide)) (fun h3 => h2 (.inr h3)), fun h h2 => hJ.n43 (h.resolve_left (by decide)) (fun h3 => h2 (.inr h3)), fun h h2 => hJ.l43 (h.resolve_left (by decide)) (fun h3 => h2 (.inr h3)), fun h h2 => hJ.x49 (h.resolve_left (by decide)) (fun h3 => h2 (.inr h3)), fun h h2 => hJ.n49 (h.resolve_left (by decide)) (fun h3 => h2 (.inr h3)), fun h h2 => hJ.l49 (h.resolve_left (by decide)) (fun h3 => h2 (.inr h3)), fun h => hJ.x53 (h.resolve_left (by decide)), fun h => hJ.n53 (h.resolve_left (by decide)), fun h => hJ.l53 (h.resolve_left (by decide)), fun h => hJ.row (h.resolve_left (by decide)), fun h => hJ.sm (h.resolve_left (by decide)), fun h => hJ.x40 (h.resolve_left (by decide)), fun h => hJ.x41 (h.resolve_left (by decide)), fun h => hJ.x42 (h.resolve_left (by decide)), fun h => hJ.x44 (h.resolve_left (by decide)), fun h => hJ.x45 (h.resolve_left (by decide)), fun _ => rfl, fun h => hJ.x47 (h.resolve_left (by decide)), fun h => hJ.x48 (h.resolve_left (by decide)), fun h => hJ.new (h.resolve_left (by decide)), fun h h2 => hJ.dn (h.resolve_left (by decide)) (h2.resolve_left (by decide)), fun h => hJ.x50 (h.resolve_left (by decide)), fun h => hJ.x51 (h.resolve_left (by decide)), fun h => hJ.x52 (h.resolve_left (by decide)), fun h => hJ.x6 (h.resolve_left (by decide)), fun h => .inr (hJ.c4 (h.resolve_left (by decide))), fun h => .inr (hJ.c10 (h.resolve_left (by decide))), fun h => .inr (hJ.c14 (h.resolve_left (by decide))), fun h => .inr (hJ.c15 (h.resolve_left (by decide))), fun h => hJ.o6 (fun h3 => h (.inr h3)), fun h => .inr (hJ.k15_1 (h.resolve_left (by decide))), fun h => .inr (hJ.k15_11 (h.resolve_left (by decide)))⟩⟩⟩
    · rintro on X W ⟨rv, RN, RX, hh, hJ⟩ hn hd
      have h0 := hin (X := X) (k := 46) (by rw [← hds]; decide)
      rw [hJ.x46 (hd 7 (by kernel_rfl))] at h0
      refine op_value (v := .agg #[.int .i64 m.k, .int .i64 m.i, .int .i64 m.t, .int .i64 m.v]) (w' := W) ?_ ?_
      · generalize (puts A X ds).eval = ρ at h0 ⊢
        obtain ⟨f0, f1, f2, f3⟩ := HC W hJ.low
        go_simp
      · exact ⟨upd X 47 (.agg #[.int .i64 m.k, .int .i64 m.i, .int .i64 m.t, .int .i64 m.v]), puts_put _ (by rw [← hds]; decide), ⟨rv, RN, RX, hh, ⟨hJ.low, fun h h2 => hJ.x39 (h.resolve_left (by decide)) (fun h3 => h2 (.inr h3)), fun h h2 => hJ.n39 (h.resolve_left (by decide)) (fun h3 => h2 (.inr h3)), fun h h2 => hJ.l39 (h.resolve_left (by decide)) (fun h3 => h2 (.inr h3)), fun h h2 => hJ.x43 (h.resolve_left (by decide)) (fun h3 => h2 (.inr h3)), fun h h2 => hJ.n43 (h.resolve_left (by decide)) (fun h3 => h2 (.inr h3)), fun h h2 => hJ.l43 (h.resolve_left (by decide)) (fun h3 => h2 (.inr h3)), fun h h2 => hJ.x49 (h.resolve_left (by decide)) (fun h3 => h2 (.inr h3)), fun h h2 => hJ.n49 (h.resolve_left (by decide)) (fun h3 => h2 (.inr h3)), fun h h2 => hJ.l49 (h.resolve_left (by decide)) (fun h3 => h2 (.inr h3)), fun h => hJ.x53 (h.resolve_left (by decide)), fun h => hJ.n53 (h.resolve_left (by decide)), fun h => hJ.l53 (h.resolve_left (by decide)), fun h => hJ.row (h.resolve_left (by decide)), fun h => hJ.sm (h.resolve_left (by decide)), fun h => hJ.x40 (h.resolve_left (by decide)), fun h => hJ.x41 (h.resolve_left (by decide)), fun h => hJ.x42 (h.resolve_left (by decide)), fun h => hJ.x44 (h.resolve_left (by decide)), fun h => hJ.x45 (h.resolve_left (by decide)), fun h => hJ.x46 (h.resolve_left (by decide)), fun _ => rfl, fun h => hJ.x48 (h.resolve_left (by decide)), fun h => hJ.new (h.resolve_left (by decide)), fun h h2 => hJ.dn (h.resolve_left (by decide)) (h2.resolve_left (by decide)), fun h => hJ.x50 (h.resolve_left (by decide)), fun h => hJ.x51 (h.resolve_left (by decide)), fun h => hJ.x52 (h.resolve_left (by decide)), fun h => hJ.x6 (h.resolve_left (by decide)), fun h => .inr (hJ.c4 (h.resolve_left (by decide))), fun h => .inr (hJ.c10 (h.resolve_left (by decide))), fun h => .inr (hJ.c14 (h.resolve_left (by decide))), fun h => .inr (hJ.c15 (h.resolve_left (by decide))), fun h => hJ.o6 (fun h3 => h (.inr h3)), fun h => .inr (hJ.k15_1 (h.resolve_left (by decide))), fun h => .inr (hJ.k15_11 (h.resolve_left (by decide)))⟩⟩⟩
    · rintro on X W ⟨rv, RN, RX, hh, hJ⟩ hn hd
      have h0 := hin (X := X) (k := 47) (by rw [← hds]; decide)
      rw [hJ.x47 (hd 8 (by kernel_rfl))] at h0
      have hb : Below W.heap.size W (W.alloc (.cells #[.int .i64 m.k, .int .i64 m.i, .int .i64 m.t, .int .i64 m.v] 45)) := one_newU _ _
      refine op_value (v := .slice (some ⟨W.heap.size, 0, none⟩) 1 1) (w' := W.alloc (.cells #[.int .i64 m.k, .int .i64 m.i, .int .i64 m.t, .int .i64 m.v] 45)) ?_ ?_
      · generalize (puts A X ds).eval = ρ at h0 ⊢
        go_simp
      · exact ⟨upd X 48 (.slice (some ⟨W.heap.size, 0, none⟩) 1 1), puts_put _ (by rw [← hds]; decide), ⟨rv, RN, RX, W.heap.size, ⟨hJ.low.trans (hb.mono hJ.low.size), fun h h2 => hJ.x39 (h.resolve_left (by decide)) (fun h3 => h2 (.inr h3)), fun h h2 => hJ.n39 (h.resolve_left (by decide)) (fun h3 => h2 (.inr h3)), fun h h2 => hJ.l39 (h.resolve_left (by decide)) (fun h3 => h2 (.inr h3)), fun h h2 => hJ.x43 (h.resolve_left (by decide)) (fun h3 => h2 (.inr h3)), fun h h2 => hJ.n43 (h.resolve_left (by decide)) (fun h3 => h2 (.inr h3)), fun h h2 => hJ.l43 (h.resolve_left (by decide)) (fun h3 => h2 (.inr h3)), fun h h2 => hJ.x49 (h.resolve_left (by decide)) (fun h3 => h2 (.inr h3)), fun h h2 => hJ.n49 (h.resolve_left (by decide)) (fun h3 => h2 (.inr h3)), fun h h2 => hJ.l49 (h.resolve_left (by decide)) (fun h3 => h2 (.inr h3)), fun h => hJ.x53 (h.resolve_left (by decide)), fun h => hJ.n53 (h.resolve_left (by decide)), fun h => hJ.l53 (h.resolve_left (by decide)), fun h => own_new (hJ.row (h.resolve_left (by decide))) hb, fun h => hJ.sm (h.resolve_left (by decide)), fun h => hJ.x40 (h.resolve_left (by decide)), fun h => hJ.x41 (h.resolve_left (by decide)), fun h => hJ.x42 (h.resolve_left (by decide)), fun h => hJ.x44 (h.resolve_left (by decide)), fun h => hJ.x45 (h.resolve_left (by decide)), fun h => hJ.x46 (h.resolve_left (by decide)), fun h => hJ.x47 (h.resolve_left (by decide)), fun _ => rfl, fun _ => heap_alloc_new _ _, fun h _ e0 => by have := (World.ownsRow.lt (hJ.row (h.resolve_left (by decide))) _ e0).2; omega, fun h => hJ.x50 (h.resolve_left (by decide)), fun h => hJ.x51 (h.resolve_left (by decide)), fun h => hJ.x52 (h.resolve_left (by decide)), fun h => hJ.x6 (h.resolve_left (by decide)), fun h => .inr (hJ.c4 (h.resolve_left (by decide))), fun h => .inr (hJ.c10 (h.resolve_left (by decide))), fun h => .inr (hJ.c14 (h.resolve_left (by decide))), fun h => .inr (hJ.c15 (h.resolve_left (by decide))), fun h => hJ.o6 (fun h3 => h (.inr h3)), fun h => .inr (hJ.k15_1 (h.resolve_left (by decide))), fun h => .inr (hJ.k15_11 (h.resolve_left (by decide)))⟩⟩⟩
    · rintro on X W ⟨rv, RN, RX, hh, hJ⟩ hn hd
      have hrow0 := hJ.row (hJ.c4 (hd 4 (by kernel_rfl)))
      have hrow := hrow0
      rw [hJ.n43 (hd 4 (by kernel_rfl)) hn, hJ.l43 (hd 4 (by kernel_rfl)) hn] at hrow
      have h0 := hin (X := X) (k := 43) (by rw [← hds]; decide)
      rw [hJ.x43 (hd 4 (by kernel_rfl)) hn] at h0
      have h1 := hin (X := X) (k := 48) (by rw [← hds]; decide)
      rw [hJ.x48 (hd 9 (by kernel_rfl))] at h1
      refine op_appendG Try.underlying42 hi hz0 hz1 hz2 rfl (by decide) (by decide) rfl W0.heap.size rv (0 + at_) ([] ++ s1) h0 hrow h1 ([.int .i64 m.k, .int .i64 m.i, .int .i64 m.t, .int .i64 m.v]) rfl (src_one (hJ.new (hd 9 (by kernel_rfl)))) (by intro u hu; simp at hu; rcases hu with rfl | rfl | rfl | rfl <;> rfl) (by omega) hJ.low.size ?_
      intro v' W' hown hgrow hat
      have f : Fr W W' (fun k => rv.ownBlock = some k) := Fr.grown hgrow (fun k hk => hk)
      have hsm : v'.ownBlock ≠ none := by
        rcases hat with h5 | h5
        · rw [h5]; exact hJ.sm (hJ.c4 (hd 4 (by kernel_rfl)))
        · rw [h5]; simp
      have hdn : (9 = 10 ∨ on 9) → v'.ownBlock ≠ some hh := by
        intro h e0
        have h10 := h.resolve_left (by decide)
        rcases hat with h5 | h5
        · exact hJ.dn (hJ.c4 (hd 4 (by kernel_rfl))) h10 (h5.symm.trans e0)
        · have h6 := Option.some.inj (h5.symm.trans e0)
          have := lt_of_block (hJ.new h10)
          omega
      exact ⟨upd X 49 v', puts_put _ (by rw [← hds]; decide), ⟨v', 0 + at_ + 1, [] ++ s1 ++ [.int .i64 m.k, .int .i64 m.i, .int .i64 m.t, .int .i64 m.v], hh, ⟨hJ.low.trans (f.below hJ.low.size (fun k hk => (World.ownsRow.lt hrow0 k hk).1)), fun _ h2 => absurd (.inr (hd 4 (by kernel_rfl))) h2, fun _ h2 => absurd (.inr (hd 4 (by kernel_rfl))) h2, fun _ h2 => absurd (.inr (hd 4 (by kernel_rfl))) h2, fun _ h => absurd (.inl rfl) h, fun _ h => absurd (.inl rfl) h, fun _ h => absurd (.inl rfl) h, fun _ _ => rfl, fun _ _ => rfl, fun _ _ => rfl, fun h => absurd (hJ.c14 (h.resolve_left (by decide))) hn, fun h => absurd (hJ.c14 (h.resolve_left (by decide))) hn, fun h => absurd (hJ.c14 (h.resolve_left (by decide))) hn, fun _ => hown, fun _ => hsm, fun h => hJ.x40 (h.resolve_left (by decide)), fun h => hJ.x41 (h.resolve_left (by decide)), fun h => hJ.x42 (h.resolve_left (by decide)), fun h => hJ.x44 (h.resolve_left (by decide)), fun h => hJ.x45 (h.resolve_left (by decide)), fun h => hJ.x46 (h.resolve_left (by decide)), fun h => hJ.x47 (h.resolve_left (by decide)), fun h => hJ.x48 (h.resolve_left (by decide)), fun h => (f.block _ (lt_of_block (hJ.new (h.resolve_left (by decide)))) (fun e0 => hJ.dn (hJ.c4 (hd 4 (by kernel_rfl))) (h.resolve_left (by decide)) e0)).trans (hJ.new (h.resolve_left (by decide))), fun _ h => hdn h, fun h => hJ.x50 (h.resolve_left (by decide)), fun h => hJ.x51 (h.resolve_left (by decide)), fun h => hJ.x52 (h.resolve_left (by decide)), fun h => absurd (hJ.c14 (hJ.c15 (h.resolve_left (by decide)))) hn, fun h => .inr (hJ.c4 (h.resolve_left (by decide))), fun _ => .inr (hd 4 (by kernel_rfl)), fun h => .inr (hJ.c14 (h.resolve_left (by decide))), fun h => .inr (hJ.c15 (h.resolve_left (by decide))), fun h => hJ.o6 (fun h3 => h (.inr h3)), fun h => .inr (hJ.k15_1 (h.resolve_left (by decide))), fun h => .inr (hJ.k15_11 (h.resolve_left (by decide)))⟩⟩⟩
    · rintro on X W ⟨rv, RN, RX, hh, hJ⟩ hn hd
      have h0 := hin (X := X) (k := 6) (by rw [← hds]; decide)
      rw [hJ.o6 (fun h => hn (hJ.k15_11 h))] at h0
      refine op_value (v := .slice go gn gc) (w' := W) ?_ ?_
      · generalize (puts A X ds).eval = ρ at h0 ⊢
        go_simp
      · exact ⟨upd X 50 (.slice go gn gc), puts_put _ (by rw [← hds]; decide), ⟨rv, RN, RX, hh, ⟨hJ.low, fun h h2 => hJ.x39 (h.resolve_left (by decide)) (fun h3 => h2 (.inr h3)), fun h h2 => hJ.n39 (h.resolve_left (by decide)) (fun h3 => h2 (.inr h3)), fun h h2 => hJ.l39 (h.resolve_left (by decide)) (fun h3 => h2 (.inr h3)), fun h h2 => hJ.x43 (h.resolve_left (by decide)) (fun h3 => h2 (.inr h3)), fun h h2 => hJ.n43 (h.resolve_left (by decide)) (fun h3 => h2 (.inr h3)), fun h h2 => hJ.l43 (h.resolve_left (by decide)) (fun h3 => h2 (.inr h3)), fun h h2 => hJ.x49 (h.resolve_left (by decide)) (fun h3 => h2 (.inr h3)), fun h h2 => hJ.n49 (h.resolve_left (by decide)) (fun h3 => h2 (.inr h3)), fun h h2 => hJ.l49 (h.resolve_left (by decide)) (fun h3 => h2 (.inr h3)), fun h => hJ.x53 (h.resolve_left (by decide)), fun h => hJ.n53 (h.resolve_left (by decide)), fun h => hJ.l53 (h.resolve_left (by decide)), fun h => hJ.row (h.resolve_left (by decide)), fun h => hJ.sm (h.resolve_left (by decide)), fun h => hJ.x40 (h.resolve_left (by decide)), fun h => hJ.x41 (h.resolve_left (by decide)), fun h => hJ.x42 (h.resolve_left (by decide)), fun h => hJ.x44 (h.resolve_left (by decide)), fun h => hJ.x45 (h.resolve_left (by decide)), fun h => hJ.x46 (h.resolve_left (by decide)), fun h => hJ.x47 (h.resolve_left (by decide)), fun h => hJ.x48 (h.resolve_left (by decide)), fun h => hJ.new (h.resolve_left (by decide)), fun h h2 => hJ.dn (h.resolve_left (by decide)) (h2.resolve_left (by decide)), fun _ => rfl, fun h => hJ.x51 (h.resolve_left (by decide)), fun h => hJ.x52 (h.resolve_left (by decide)), fun h => hJ.x6 (h.resolve_left (by decide)), fun h => .inr (hJ.c4 (h.resolve_left (by decide))), fun h => .inr (hJ.c10 (h.resolve_left (by decide))), fun h => .inr (hJ.c14 (h.resolve_left (by decide))), fun h => .inr (hJ.c15 (h.resolve_left (by decide))), fun h => hJ.o6 (fun h3 => h (.inr h3)), fun h => .inr (hJ.k15_1 (h.resolve_left (by decide))), fun h => .inr (hJ.k15_11 (h.resolve_left (by decide)))⟩⟩⟩
    · rintro on X W ⟨rv, RN, RX, hh, hJ⟩ hn hd
      have h0 := hout (X := X) (k := 8) (by rw [← hds]; decide)
      rw [hA8] at h0
      refine op_value (v := .int .i64 at_) (w' := W) ?_ ?_
      · generalize (puts A X ds).eval = ρ at h0 ⊢
        go_simp
      · exact ⟨upd X 51 (.int .i64 at_), puts_put _ (by rw [← hds]; decide), ⟨rv, RN, RX, hh, ⟨hJ.low, fun h h2 => hJ.x39 (h.resolve_left (by decide)) (fun h3 => h2 (.inr h3)), fun h h2 => hJ.n39 (h.resolve_left (by decide)) (fun h3 => h2 (.inr h3)), fun h h2 => hJ.l39 (h.resolve_left (by decide)) (fun h3 => h2 (.inr h3)), fun h h2 => hJ.x43 (h.resolve_left (by decide)) (fun h3 => h2 (.inr h3)), fun h h2 => hJ.n43 (h.resolve_left (by decide)) (fun h3 => h2 (.inr h3)), fun h h2 => hJ.l43 (h.resolve_left (by decide)) (fun h3 => h2 (.inr h3)), fun h h2 => hJ.x49 (h.resolve_left (by decide)) (fun h3 => h2 (.inr h3)), fun h h2 => hJ.n49 (h.resolve_left (by decide)) (fun h3 => h2 (.inr h3)), fun h h2 => hJ.l49 (h.resolve_left (by decide)) (fun h3 => h2 (.inr h3)), fun h => hJ.x53 (h.resolve_left (by decide)), fun h => hJ.n53 (h.resolve_left (by decide)), fun h => hJ.l53 (h.resolve_left (by decide)), fun h => hJ.row (h.resolve_left (by decide)), fun h => hJ.sm (h.resolve_left (by decide)), fun h => hJ.x40 (h.resolve_left (by decide)), fun h => hJ.x41 (h.resolve_left (by decide)), fun h => hJ.x42 (h.resolve_left (by decide)), fun h => hJ.x44 (h.resolve_left (by decide)), fun h => hJ.x45 (h.resolve_left (by decide)), fun h => hJ.x46 (h.resolve_left (by decide)), fun h => hJ.x47 (h.resolve_left (by decide)), fun h => hJ.x48 (h.resolve_left (by decide)), fun h => hJ.new (h.resolve_left (by decide)), fun h h2 => hJ.dn (h.resolve_left (by decide)) (h2.resolve_left (by decide)), fun h => hJ.x50 (h.resolve_left (by decide)), fun _ => rfl, fun h => hJ.x52 (h.resolve_left (by decide)), fun h => hJ.x6 (h.resolve_left (by decide)), fun h => .inr (hJ.c4 (h.resolve_left (by decide))), fun h => .inr (hJ.c10 (h.resolve_left (by decide))), fun h => .inr (hJ.c14 (h.resolve_left (by decide))), fun h => .inr (hJ.c15 (h.resolve_left (by decide))), fun h => hJ.o6 (fun h3 => h (.inr h3)), fun h => .inr (hJ.k15_1 (h.resolve_left (by decide))), fun h => .inr (hJ.k15_11 (h.resolve_left (by decide)))⟩⟩⟩
    · rintro on X W ⟨rv, RN, RX, hh, hJ⟩ hn hd
      have h0 := hin (X := X) (k := 50) (by rw [← hds]; decide)
      rw [hJ.x50 (hd 11 (by kernel_rfl))] at h0
      have h1 := hin (X := X) (k := 51) (by rw [← hds]; decide)
      rw [hJ.x51 (hd 12 (by kernel_rfl))] at h1
      refine op_value (v := .slice (subA 4 go gc at_) (gn - at_) (gc - at_)) (w' := W) ?_ ?_
      · generalize (puts A X ds).eval = ρ at h0 h1 ⊢
        have hac : at_ ≤ gc := by omega
        rcases hgo with ⟨rfl, rfl, rfl, rfl⟩ | ⟨gb, rfl⟩
        · rw [subA_none]
          go_simp
        · rw [subA_some]
          go_simp
      · exact ⟨upd X 52 (.slice (subA 4 go gc at_) (gn - at_) (gc - at_)), puts_put _ (by rw [← hds]; decide), ⟨rv, RN, RX, hh, ⟨hJ.low, fun h h2 => hJ.x39 (h.resolve_left (by decide)) (fun h3 => h2 (.inr h3)), fun h h2 => hJ.n39 (h.resolve_left (by decide)) (fun h3 => h2 (.inr h3)), fun h h2 => hJ.l39 (h.resolve_left (by decide)) (fun h3 => h2 (.inr h3)), fun h h2 => hJ.x43 (h.resolve_left (by decide)) (fun h3 => h2 (.inr h3)), fun h h2 => hJ.n43 (h.resolve_left (by decide)) (fun h3 => h2 (.inr h3)), fun h h2 => hJ.l43 (h.resolve_left (by decide)) (fun h3 => h2 (.inr h3)), fun h h2 => hJ.x49 (h.resolve_left (by decide)) (fun h3 => h2 (.inr h3)), fun h h2 => hJ.n49 (h.resolve_left (by decide)) (fun h3 => h2 (.inr h3)), fun h h2 => hJ.l49 (h.resolve_left (by decide)) (fun h3 => h2 (.inr h3)), fun h => hJ.x53 (h.resolve_left (by decide)), fun h => hJ.n53 (h.resolve_left (by decide)), fun h => hJ.l53 (h.resolve_left (by decide)), fun h => hJ.row (h.resolve_left (by decide)), fun h => hJ.sm (h.resolve_left (by decide)), fun h => hJ.x40 (h.resolve_left (by decide)), fun h => hJ.x41 (h.resolve_left (by decide)), fun h => hJ.x42 (h.resolve_left (by decide)), fun h => hJ.x44 (h.resolve_left (by decide)), fun h => hJ.x45 (h.resolve_left (by decide)), fun h => hJ.x46 (h.resolve_left (by decide)), fun h => hJ.x47 (h.resolve_left (by decide)), fun h => hJ.x48 (h.resolve_left (by decide)), fun h => hJ.new (h.resolve_left (by decide)), fun h h2 => hJ.dn (h.resolve_left (by decide)) (h2.resolve_left (by decide)), fun h => hJ.x50 (h.resolve_left (by decide)), fun h => hJ.x51 (h.resolve_left (by decide)), fun _ => rfl, fun h => hJ.x6 (h.resolve_left (by decide)), fun h => .inr (hJ.c4 (h.resolve_left (by decide))), fun h => .inr (hJ.c10 (h.resolve_left (by decide))), fun h => .inr (hJ.c14 (h.resolve_left (by decide))), fun h => .inr (hJ.c15 (h.resolve_left (by decide))), fun h => hJ.o6 (fun h3 => h (.inr h3)), fun h => .inr (hJ.k15_1 (h.resolve_left (by decide))), fun h => .inr (hJ.k15_11 (h.resolve_left (by decide)))⟩⟩⟩
    · rintro on X W ⟨rv, RN, RX, hh, hJ⟩ hn hd
      have hrow0 := hJ.row (hJ.c4 (hJ.c10 (hd 10 (by kernel_rfl))))
      have hrow := hrow0
      rw [hJ.n49 (hd 10 (by kernel_rfl)) hn, hJ.l49 (hd 10 (by kernel_rfl)) hn] at hrow
      have h0 := hin (X := X) (k := 49) (by rw [← hds]; decide)
      rw [hJ.x49 (hd 10 (by kernel_rfl)) hn] at h0
      have h1 := hin (X := X) (k := 52) (by rw [← hds]; decide)
      rw [hJ.x52 (hd 13 (by kernel_rfl))] at h1
      refine op_appendG Try.underlying42 hi hz0 hz1 hz2 rfl (by decide) (by decide) rfl W0.heap.size rv (0 + at_ + 1) ([] ++ s1 ++ [.int .i64 m.k, .int .i64 m.i, .int .i64 m.t, .int .i64 m.v]) h0 hrow h1 (s2) hl2 (HS2 W hJ.low) ho2 (by omega) hJ.low.size ?_
      intro v' W' hown hgrow hat
      have f : Fr W W' (fun k => rv.ownBlock = some k) := Fr.grown hgrow (fun k hk => hk)
      have hsm : v'.ownBlock ≠ none := by
        rcases hat with h5 | h5
        · rw [h5]; exact hJ.sm (hJ.c4 (hJ.c10 (hd 10 (by kernel_rfl))))
        · rw [h5]; simp
      have hdn : (9 = 14 ∨ on 9) → v'.ownBlock ≠ some hh := by
        intro h e0
        have h10 := h.resolve_left (by decide)
        rcases hat with h5 | h5
        · exact hJ.dn (hJ.c4 (hJ.c10 (hd 10 (by kernel_rfl)))) h10 (h5.symm.trans e0)
        · have h6 := Option.some.inj (h5.symm.trans e0)
          have := lt_of_block (hJ.new h10)
          omega
      exact ⟨upd X 53 v', puts_put _ (by rw [← hds]; decide), ⟨v', 0 + at_ + 1 + (gn - at_), [] ++ s1 ++ [.int .i64 m.k, .int .i64 m.i, .int .i64 m.t, .int .i64 m.v] ++ s2, hh, ⟨hJ.low.trans (f.below hJ.low.size (fun k hk => (World.ownsRow.lt hrow0 k hk).1)), fun _ h2 => absurd (.inr (hJ.c10 (hd 10 (by kernel_rfl)))) h2, fun _ h2 => absurd (.inr (hJ.c10 (hd 10 (by kernel_rfl)))) h2, fun _ h2 => absurd (.inr (hJ.c10 (hd 10 (by kernel_rfl)))) h2, fun _ h2 => absurd (.inr (hd 10 (by kernel_rfl))) h2, fun _ h2 => absurd (.inr (hd 10 (by kernel_rfl))) h2, fun _ h2 => absurd (.inr (hd 10 (by kernel_rfl))) h2, fun _ h => absurd (.inl rfl) h, fun _ h => absurd (.inl rfl) h, fun _ h => absurd (.inl rfl) h, fun _ => rfl, fun _ => rfl, fun _ => rfl, fun _ => hown, fun _ => hsm, fun h => hJ.x40 (h.resolve_left (by decide)), fun h => hJ.x41 (h.resolve_left (by decide)), fun h => hJ.x42 (h.resolve_left (by decide)), fun h => hJ.x44 (h.resolve_left (by decide)), fun h => hJ.x45 (h.resolve_left (by decide)), fun h => hJ.x46 (h.resolve_left (by decide)), fun h => hJ.x47 (h.resolve_left (by decide)), fun h => hJ.x48 (h.resolve_left (by decide)), fun h => (f.block _ (lt_of_block (hJ.new (h.resolve_left (by decide)))) (fun e0 => hJ.dn (hJ.c4 (hJ.c10 (hd 10 (by kernel_rfl)))) (h.resolve_left (by decide)) e0)).trans (hJ.new (h.resolve_left (by decide))), fun _ h => hdn h, fun h => hJ.x50 (h.resolve_left (by decide)), fun h => hJ.x51 (h.resolve_left (by decide)), fun h => hJ.x52 (h.resolve_left (by decide)), fun h => absurd (hJ.c15 (h.resolve_left (by decide))) hn, fun h => .inr (hJ.c4 (h.resolve_left (by decide))), fun h => .inr (hJ.c10 (h.resolve_left (by decide))), fun _ => .inr (hd 10 (by kernel_rfl)), fun h => .inr (hJ.c15 (h.resolve_left (by decide))), fun h => hJ.o6 (fun h3 => h (.inr h3)), fun h => .inr (hJ.k15_1 (h.resolve_left (by decide))), fun h => .inr (hJ.k15_11 (h.resolve_left (by decide)))⟩⟩⟩
    · rintro on X W ⟨rv, RN, RX, hh, hJ⟩ hn hd
      have h0 := hin (X := X) (k := 53) (by rw [← hds]; decide)
      rw [hJ.x53 (hd 14 (by kernel_rfl))] at h0
      refine op_value (v := rv) (w' := W) ?_ ?_
      · generalize (puts A X ds).eval = ρ at h0 ⊢
        go_simp
      · exact ⟨upd X 6 rv, puts_put _ (by rw [← hds]; decide), ⟨rv, RN, RX, hh, ⟨hJ.low, fun h h2 => hJ.x39 (h.resolve_left (by decide)) (fun h3 => h2 (.inr h3)), fun h h2 => hJ.n39 (h.resolve_left (by decide)) (fun h3 => h2 (.inr h3)), fun h h2 => hJ.l39 (h.resolve_left (by decide)) (fun h3 => h2 (.inr h3)), fun h h2 => hJ.x43 (h.resolve_left (by decide)) (fun h3 => h2 (.inr h3)), fun h h2 => hJ.n43 (h.resolve_left (by decide)) (fun h3 => h2 (.inr h3)), fun h h2 => hJ.l43 (h.resolve_left (by decide)) (fun h3 => h2 (.inr h3)), fun h h2 => hJ.x49 (h.resolve_left (by decide)) (fun h3 => h2 (.inr h3)), fun h h2 => hJ.n49 (h.resolve_left (by decide)) (fun h3 => h2 (.inr h3)), fun h h2 => hJ.l49 (h.resolve_left (by decide)) (fun h3 => h2 (.inr h3)), fun h => hJ.x53 (h.resolve_left (by decide)), fun h => hJ.n53 (h.resolve_left (by decide)), fun h => hJ.l53 (h.resolve_left (by decide)), fun h => hJ.row (h.resolve_left (by decide)), fun h => hJ.sm (h.resolve_left (by decide)), fun h => hJ.x40 (h.resolve_left (by decide)), fun h => hJ.x41 (h.resolve_left (by decide)), fun h => hJ.x42 (h.resolve_left (by decide)), fun h => hJ.x44 (h.resolve_left (by decide)), fun h => hJ.x45 (h.resolve_left (by decide)), fun h => hJ.x46 (h.resolve_left (by decide)), fun h => hJ.x47 (h.resolve_left (by decide)), fun h => hJ.x48 (h.resolve_left (by decide)), fun h => hJ.new (h.resolve_left (by decide)), fun h h2 => hJ.dn (h.resolve_left (by decide)) (h2.resolve_left (by decide)), fun h => hJ.x50 (h.resolve_left (by decide)), fun h => hJ.x51 (h.resolve_left (by decide)), fun h => hJ.x52 (h.resolve_left (by decide)), fun _ => rfl, fun h => .inr (hJ.c4 (h.resolve_left (by decide))), fun h => .inr (hJ.c10 (h.resolve_left (by decide))), fun h => .inr (hJ.c14 (h.resolve_left (by decide))), fun _ => .inr (hd 14 (by kernel_rfl)), fun h => absurd (.inl rfl) h, fun _ => .inr (hd 1 (by kernel_rfl)), fun _ => .inr (hd 11 (by kernel_rfl))⟩⟩⟩

end Go.Proofs.Ythnhmhjcpdomcaa
