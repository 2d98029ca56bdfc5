import Derived.Test.YthnhmhjcpdomcaaRegIM
import Derived.Test.YthnhmhjcpdomcaaGrEqM
import Derived.Maps.AppendAt
import Derived.Test.YthnhmhjcpdomcaaMuR14
section
/- Requests appended onto a row of one's own, as one operation; Apply and Same over lengths in letters. -/
namespace Go.Proofs.Ythnhmhjcpdomcaa
open Go.RowKit Go.Sort
theorem run_append_none {P : Program} (w : World) (t ty e : TypeId) (i : TypeInfo) (ht : P.underlying t = some (.slice e)) (hi : P.info? e = some i) (base bo : Option Addr) (n c c2 : Nat) (hle : n ≤ c) :
    (Builtin.append_ #[t, t] ty #[.slice base n c, .slice bo 0 c2]).run P w = .ok (.slice base n c) w := by
  cases base <;> cases bo <;> simp [Builtin.append_, run_underlying ht, sizeOf, typeInfo, hi, hle, storeCells, loadCells, loadCellsFrom, Builtin.lenOf, Builtin.firstCells]
theorem mus_one (E : List Mu) : ∀ u ∈ E.flatMap muCells, u.oneCell' = true := by
  intro u hu
  obtain ⟨y, _, h⟩ := List.mem_flatMap.1 hu
  exact muOne y u h
theorem op_appendU {o : Oper} {a : Act} {w : World} {K : Act → World → Prop} {Q : Exit → Act → World → Prop} {R : Nat → Prop} {s x : Operand} (hop : o.op = .call { callee := .builtin .append, args := #[s, x], argTypes := #[35, 35] })
    (base : Nat) (v : Value) (D E : List Mu) {bo : Option Addr} {c m : Nat} (hs : a.eval s = v) (hown : UO w base v D) (hm : m = E.length) (hx : a.eval x = .slice bo m c) (hE : UsAt w R bo E) (h63 : D.length + E.length ≤ 1000000) (hbase : base ≤ w.heap.size)
    (h : ∀ v' w', UO w' base v' (D ++ E) → w.grownBy w' v.ownBlock → (v'.ownBlock = v.ownBlock ∨ v'.ownBlock = some w.heap.size) → K (a.put o.dst v') w') : o.wp Try.prog a w K Q := by
  obtain ⟨i0, hi, hz0, hz1, hz2⟩ := info_parts infoMu
  subst hm
  by_cases hl : 0 < E.length
  · obtain ⟨b, off, rfl, _⟩ := hE hl
    obtain ⟨v', w', hr, h2, h3, _, h5⟩ := run_append_own_at (P := Try.prog) w base 35 o.type 38 i0 (.agg #[.int .i64 0, .int .i64 0, .int .i64 0, .int .i64 0]) 4 32 Try.underlying35 hi hz0 hz1 hz2 rfl (by decide) v D.length (D.flatMap muCells) hown ⟨b, off, none⟩ E.length c (E.flatMap muCells) (mu_len E) hE.flat (mus_one E) (by unfold maxLen; omega) (by omega) hbase
    unfold Oper.wp execOp
    simp only [hop, resolve, invoke, builtin, Sem.run_bind, Sem.run_pure, Result.andThen_ok, List.map_toArray, List.map_cons, List.map_nil, hs, hx, hr]
    refine h v' w' ?_ h3 h5
    unfold UO
    rw [List.length_append, List.flatMap_append]
    exact h2
  · have e0 : E = [] := List.length_eq_zero_iff.1 (by omega)
    subst e0
    have hle : ∃ so n cc, v = .slice so n cc ∧ n ≤ cc := by
      rcases hown.2 with ⟨h1, _⟩ | ⟨g, cap, cur, h1, _, _, hn, _⟩
      · exact ⟨_, _, _, h1, Nat.le_refl _⟩
      · exact ⟨_, _, _, h1, hn⟩
    obtain ⟨so, n, cc, rfl, hle⟩ := hle
    have hr := run_append_none (P := Try.prog) w 35 o.type 38 i0 Try.underlying35 hi so bo n cc c hle
    unfold Oper.wp execOp
    simp only [hop, resolve, invoke, builtin, Sem.run_bind, Sem.run_pure, Result.andThen_ok, List.map_toArray, List.map_cons, List.map_nil, hs, hx, List.length_nil, hr]
    refine h _ _ ?_ (World.grownBy.refl _ _) (.inl rfl)
    rw [List.append_nil]
    exact hown
theorem apply_nv {w : World} {P Q : Nat → Prop} {ao bo : Option Addr} (G : List Vx) (cap : Nat) (L : List Mu) (cap2 : Nat) {gn n : Nat} (hgn : gn = G.length) (hn : n = L.length) (hG : VxAt w P ao G) (hok : ∀ v ∈ G, v.ok) (hf : Fine G) {N : Nat} (hu : Up N G) (hN : N + n ≤ 1073741824) (hL : UsAt w Q bo L) (hk : ∀ m ∈ L, 1 ≤ m.k ∧ m.k ≤ 4) {AG : List Vx} {an : Nat} (hA : appG G L = (AG, an)) :
    Calls Try.prog 16 #[.agg #[.slice ao gn cap], .slice bo n cap2] w fun r w' => ∃ so sc, r = .returned (.tuple #[.agg #[.slice so AG.length sc], .int .i64 an]) ∧ VxAt w' (fun k => w.heap.size ≤ k ∧ k < w'.heap.size) so AG ∧ Below w.heap.size w w' := by
  subst hn hgn
  refine (apply_any G cap L cap2 hG hok hf hu hN hL hk).mono ?_
  rintro r w' ⟨sv, M, rfl, h1, h2, h3⟩
  obtain ⟨so, sc, rfl, hV⟩ := h2.at_
  rw [hA] at h1 ⊢
  simp only at h1 ⊢
  rw [h1] at hV
  have hl : M.length = AG.length := by rw [← h1, List.length_map]
  rw [hl]
  exact ⟨so, sc, rfl, hV.kept (Fr.refl _ (fun _ => False)) (fun k hk hp => ⟨fun h => h, hp, hk⟩), h3⟩
theorem same_nv {w : World} {P Q : Nat → Prop} {ao bo : Option Addr} {L : List Vx} (ca cb : Nat) (hL : VxAt w P ao L) (hM : VxAt w Q bo L) (hl : L.length ≤ 9223372036854775807) (hok : ∀ v ∈ L, v.es.length ≤ 9223372036854775807) :
    Calls Try.prog 21 #[.agg #[.slice ao L.length ca], .agg #[.slice bo L.length cb]] w fun r w' => r = .returned (.bool true) ∧ Below w.heap.size w w' := by
  have h := same_any ca cb hL hM hl hok
  rw [(sameG_iff L L).2 rfl] at h
  exact h
end Go.Proofs.Ythnhmhjcpdomcaa
end

section
/- Region 20 of MutOrders: all requests, and all of them turned, in one row; they are done, the graph in a box of its own. -/
namespace Go.Proofs.Ythnhmhjcpdomcaa
open Go.RowKit Go.Sort
theorem cellG1 {w : World} {g : Nat} {v : Value} (h : w.heap[g]? = some (.cells #[v] 24 (0, 0))) : w.cell? ⟨g, 0, none⟩ = some v := by simp [World.cell?, h]
theorem softG1 {w : World} {g : Nat} {v : Value} (h : w.heap[g]? = some (.cells #[v] 24 (0, 0))) : w.frozen? ⟨g, 0, none⟩ = false := by simp [World.frozen?, h]
/-- What holds behind whatever has come up. -/
structure J20 (W0 : World) (ao bo o : Option Addr) (gn cap n cap2 m c : Nat) (L T : List Mu) (AG : List Vx) (an : Nat) (on : Nat → Prop) (X : Nat → Value) (W : World) (rv : Value) (RL : List Mu) (e : Nat) (bv : Value) (so : Option Addr) (sc : Nat) : Prop where
  low : Below W0.heap.size W0 W
  x123 : on 0 → X 123 = .agg #[.slice ao gn cap]
  x124 : on 1 → ¬ on 3 → X 124 = rv
  l124 : on 1 → ¬ on 3 → RL = []
  x125 : on 2 → X 125 = .slice bo n cap2
  x126 : on 3 → ¬ on 5 → X 126 = rv
  l126 : on 3 → ¬ on 5 → RL = L
  x127 : on 4 → X 127 = .slice o m c
  x128 : on 5 → X 128 = rv
  l128 : on 5 → RL = L ++ T
  row : on 1 → UO W W0.heap.size rv RL
  x129 : on 6 → X 129 = .tuple #[.agg #[.slice so AG.length sc], .int .i64 an]
  gr : on 6 → VxAt W (fun k => on 10 → k ≠ e) so AG
  x122 : on 7 → X 122 = .tuple #[.agg #[.slice so AG.length sc], .int .i64 an]
  x130 : on 8 → X 130 = .agg #[.slice so AG.length sc]
  x131 : on 9 → X 131 = .int .i64 an
  x18 : on 10 → X 18 = .pointer (some ⟨e, 0, none⟩)
  be : on 10 → W.heap[e]? = some (.cells #[bv] 24 (0, 0))
  le : on 10 → W0.heap.size ≤ e
  de : on 1 → on 10 → rv.ownBlock ≠ some e
  se : on 11 → bv = .slice so AG.length sc
  x19 : on 12 → X 19 = .int .i64 an
  c31 : on 3 → on 1
  c53 : on 5 → on 3
  c65 : on 6 → on 5
  c76 : on 7 → on 6
  c87 : on 8 → on 7
  c118 : on 11 → on 8
  c1110 : on 11 → on 10
set_option maxRecDepth 100000 in
set_option maxHeartbeats 4000000 in
theorem mord_r20 {W0 : World} {A : Act} {P Q R : Nat → Prop} {ao bo o : Option Addr} {gn cap n cap2 m c b0 : Nat} {G : List Vx} {L T : List Mu} {AG : List Vx} {an N : Nat} {K : Act → World → Prop} {Q' : Exit → Act → World → Prop}
    (hsz : A.tmps.size = 153) (hA1 : A.eval (.tmp 1) = .slice bo n cap2) (hA3 : A.eval (.tmp 3) = .pointer (some ⟨b0, 0, none⟩)) (hA8 : A.eval (.tmp 8) = .slice o m c)
    (hB : W0.heap[b0]? = some (.cells #[.slice ao gn cap] 24 (0, 0))) (hLn : n = L.length) (hTn : m = T.length) (hGn : gn = G.length) (hl : L.length + T.length ≤ 1000) (HG : ∀ W, Below W0.heap.size W0 W → VxAt W P ao G) (HL : ∀ W, Below W0.heap.size W0 W → UsAt W Q bo L) (HT : ∀ W, Below W0.heap.size W0 W → UsAt W R o T)
    (hok : ∀ v ∈ G, v.ok) (hfi : Fine G) (hu : Up N G) (hN : N ≤ 1000000) (hk : ∀ m ∈ L ++ T, 1 ≤ m.k ∧ m.k ≤ 4) (hA : appG G (L ++ T) = (AG, an))
    (HK : ∀ X W e so sc, X 18 = .pointer (some ⟨e, 0, none⟩) → X 19 = .int .i64 an → W.heap[e]? = some (.cells #[.slice so AG.length sc] 24 (0, 0)) → W0.heap.size ≤ e → VxAt W (fun _ => True) so AG → Below W0.heap.size W0 W → K (puts A X [18, 19, 122, 123, 124, 125, 126, 127, 128, 129, 130, 131]) W) :
    Code.wp Try.prog ((Try.f5.body.bind (regionJ 20)).getD .skip) (Exit.then K Q') A W0 := by
  have hin : ∀ {X : Nat → Value} {k : Nat}, k ∈ [18, 19, 122, 123, 124, 125, 126, 127, 128, 129, 130, 131] → (puts A X [18, 19, 122, 123, 124, 125, 126, 127, 128, 129, 130, 131]).eval (.tmp k) = X k := fun hk => eval_in hk (by
    rw [hsz]; revert hk; simp only [List.mem_cons, List.not_mem_nil, or_false]; omega)
  have hout : ∀ {X : Nat → Value} {k : Nat}, k ∉ [18, 19, 122, 123, 124, 125, 126, 127, 128, 129, 130, 131] → (puts A X [18, 19, 122, 123, 124, 125, 126, 127, 128, 129, 130, 131]).eval (.tmp k) = A.eval (.tmp k) := fun hk => eval_out hk
  generalize hds : [18, 19, 122, 123, 124, 125, 126, 127, 128, 129, 130, 131] = ds at *
  conv => arg 2; whnf
  refine wp_region_J ds (fun on X W => ∃ rv RL e bv so sc, J20 W0 ao bo o gn cap n cap2 m c L T AG an on X W rv RL e bv so sc) (by kernel_rfl) (by kernel_rfl) ?start ?steps ?done
  case start =>
    refine ⟨.bool false, [], 0, .bool false, none, 0, ?_⟩
    constructor
    · exact ⟨rfl, rfl, rfl, Nat.le_refl _, fun _ _ => rfl⟩
    all_goals exact fun h => h.elim
  case done =>
    rintro on X W ⟨rv, RL, e, bv, so, sc, hJ⟩ hall
    have h1 := hJ.be (hall 10 (by decide))
    rw [hJ.se (hall 11 (by decide))] at h1
    exact HK X W e so sc (hJ.x18 (hall 10 (by decide))) (hJ.x19 (hall 12 (by decide))) h1 (hJ.le (hall 10 (by decide))) ((hJ.gr (hall 6 (by decide))).mono (fun _ _ _ => trivial)) hJ.low
  case steps =>
    refine ⟨?_, ?_, ?_, ?_, ?_, ?_, ?_, ?_, ?_, ?_, ?_, ?_, ?_, trivial⟩
    all_goals rintro on X W ⟨rv, RL, e, bv, so, sc, hJ⟩ hn hd
    · have h0 := hout (X := X) (k := 3) (by rw [← hds]; decide)
      rw [hA3] at h0
      have hbx := cellG1 ((hJ.low.block _ (lt_of_block hB)).trans hB)
      refine op_value (v := .agg #[.slice ao gn cap]) (w' := W) ?_ ?_
      · generalize (puts A X ds).eval = ρ at h0 ⊢
        go_simp
      · exact ⟨upd X 123 (.agg #[.slice ao gn cap]), puts_put _ (by rw [← hds]; decide), rv, RL, e, bv, so, sc, ⟨hJ.low, fun _ => rfl, fun h h2 => hJ.x124 (h.resolve_left (by decide)) (fun h3 => h2 (.inr h3)), fun h h2 => hJ.l124 (h.resolve_left (by decide)) (fun h3 => h2 (.inr h3)), fun h => hJ.x125 (h.resolve_left (by decide)), fun h h2 => hJ.x126 (h.resolve_left (by decide)) (fun h3 => h2 (.inr h3)), fun h h2 => hJ.l126 (h.resolve_left (by decide)) (fun h3 => h2 (.inr h3)), fun h => hJ.x127 (h.resolve_left (by decide)), fun h => hJ.x128 (h.resolve_left (by decide)), fun h => hJ.l128 (h.resolve_left (by decide)), fun h => hJ.row (h.resolve_left (by decide)), fun h => hJ.x129 (h.resolve_left (by decide)), fun h => (hJ.gr (h.resolve_left (by decide))).mono (fun k _ hp h2 => hp (h2.resolve_left (by decide))), fun h => hJ.x122 (h.resolve_left (by decide)), fun h => hJ.x130 (h.resolve_left (by decide)), fun h => hJ.x131 (h.resolve_left (by decide)), fun h => hJ.x18 (h.resolve_left (by decide)), fun h => hJ.be (h.resolve_left (by decide)), fun h => hJ.le (h.resolve_left (by decide)), fun h h2 => hJ.de (h.resolve_left (by decide)) (h2.resolve_left (by decide)), fun h => hJ.se (h.resolve_left (by decide)), fun h => hJ.x19 (h.resolve_left (by decide)), fun h => .inr (hJ.c31 (h.resolve_left (by decide))), fun h => .inr (hJ.c53 (h.resolve_left (by decide))), fun h => .inr (hJ.c65 (h.resolve_left (by decide))), fun h => .inr (hJ.c76 (h.resolve_left (by decide))), fun h => .inr (hJ.c87 (h.resolve_left (by decide))), fun h => .inr (hJ.c118 (h.resolve_left (by decide))), fun h => .inr (hJ.c1110 (h.resolve_left (by decide)))⟩⟩
    · have hb : Below W.heap.size W (W.alloc (.cells #[] 38)) := one_newU _ _
      refine op_value (v := .slice (some ⟨W.heap.size, 0, none⟩) 0 0) (w' := W.alloc (.cells #[] 38)) ?_ ?_
      · generalize (puts A X ds).eval = ρ
        go_simp
      · exact ⟨upd X 124 (.slice (some ⟨W.heap.size, 0, none⟩) 0 0), puts_put _ (by rw [← hds]; decide), .slice (some ⟨W.heap.size, 0, none⟩) 0 0, [], e, bv, so, sc, ⟨hJ.low.trans (hb.mono hJ.low.size), fun h => hJ.x123 (h.resolve_left (by decide)), fun _ _ => rfl, fun _ _ => rfl, fun h => hJ.x125 (h.resolve_left (by decide)), fun h _ => absurd (hJ.c31 (h.resolve_left (by decide))) hn, fun h _ => absurd (hJ.c31 (h.resolve_left (by decide))) hn, fun h => hJ.x127 (h.resolve_left (by decide)), fun h => absurd (hJ.c31 (hJ.c53 (h.resolve_left (by decide)))) hn, fun h => absurd (hJ.c31 (hJ.c53 (h.resolve_left (by decide)))) hn, fun _ => own_emptyU hJ.low.size, fun h => hJ.x129 (h.resolve_left (by decide)), fun h => (VxAt.new (hJ.gr (h.resolve_left (by decide))) hb).mono (fun k _ hp h2 => hp (h2.resolve_left (by decide))), fun h => hJ.x122 (h.resolve_left (by decide)), fun h => hJ.x130 (h.resolve_left (by decide)), fun h => hJ.x131 (h.resolve_left (by decide)), fun h => hJ.x18 (h.resolve_left (by decide)), fun h => (hb.block _ (lt_of_block (hJ.be (h.resolve_left (by decide))))).trans (hJ.be (h.resolve_left (by decide))), fun h => hJ.le (h.resolve_left (by decide)), fun _ h e0 => by have := lt_of_block (hJ.be (h.resolve_left (by decide))); have h9 : W.heap.size = e := Option.some.inj e0; omega, fun h => hJ.se (h.resolve_left (by decide)), fun h => hJ.x19 (h.resolve_left (by decide)), fun h => .inr (hJ.c31 (h.resolve_left (by decide))), fun h => .inr (hJ.c53 (h.resolve_left (by decide))), fun h => .inr (hJ.c65 (h.resolve_left (by decide))), fun h => .inr (hJ.c76 (h.resolve_left (by decide))), fun h => .inr (hJ.c87 (h.resolve_left (by decide))), fun h => .inr (hJ.c118 (h.resolve_left (by decide))), fun h => .inr (hJ.c1110 (h.resolve_left (by decide)))⟩⟩
    · have h0 := hout (X := X) (k := 1) (by rw [← hds]; decide)
      rw [hA1] at h0
      refine op_value (v := .slice bo n cap2) (w' := W) ?_ ?_
      · generalize (puts A X ds).eval = ρ at h0 ⊢
        go_simp
      · exact ⟨upd X 125 (.slice bo n cap2), puts_put _ (by rw [← hds]; decide), rv, RL, e, bv, so, sc, ⟨hJ.low, fun h => hJ.x123 (h.resolve_left (by decide)), fun h h2 => hJ.x124 (h.resolve_left (by decide)) (fun h3 => h2 (.inr h3)), fun h h2 => hJ.l124 (h.resolve_left (by decide)) (fun h3 => h2 (.inr h3)), fun _ => rfl, fun h h2 => hJ.x126 (h.resolve_left (by decide)) (fun h3 => h2 (.inr h3)), fun h h2 => hJ.l126 (h.resolve_left (by decide)) (fun h3 => h2 (.inr h3)), fun h => hJ.x127 (h.resolve_left (by decide)), fun h => hJ.x128 (h.resolve_left (by decide)), fun h => hJ.l128 (h.resolve_left (by decide)), fun h => hJ.row (h.resolve_left (by decide)), fun h => hJ.x129 (h.resolve_left (by decide)), fun h => (hJ.gr (h.resolve_left (by decide))).mono (fun k _ hp h2 => hp (h2.resolve_left (by decide))), fun h => hJ.x122 (h.resolve_left (by decide)), fun h => hJ.x130 (h.resolve_left (by decide)), fun h => hJ.x131 (h.resolve_left (by decide)), fun h => hJ.x18 (h.resolve_left (by decide)), fun h => hJ.be (h.resolve_left (by decide)), fun h => hJ.le (h.resolve_left (by decide)), fun h h2 => hJ.de (h.resolve_left (by decide)) (h2.resolve_left (by decide)), fun h => hJ.se (h.resolve_left (by decide)), fun h => hJ.x19 (h.resolve_left (by decide)), fun h => .inr (hJ.c31 (h.resolve_left (by decide))), fun h => .inr (hJ.c53 (h.resolve_left (by decide))), fun h => .inr (hJ.c65 (h.resolve_left (by decide))), fun h => .inr (hJ.c76 (h.resolve_left (by decide))), fun h => .inr (hJ.c87 (h.resolve_left (by decide))), fun h => .inr (hJ.c118 (h.resolve_left (by decide))), fun h => .inr (hJ.c1110 (h.resolve_left (by decide)))⟩⟩
    · have hrow := hJ.row (hd 1 (by kernel_rfl))
      have hl0 := hJ.l124 (hd 1 (by kernel_rfl)) hn
      have h0 := hin (X := X) (k := 124) (by rw [← hds]; decide)
      rw [hJ.x124 (hd 1 (by kernel_rfl)) hn] at h0
      have h1 := hin (X := X) (k := 125) (by rw [← hds]; decide)
      rw [hJ.x125 (hd 2 (by kernel_rfl))] at h1
      rw [hl0] at hrow
      refine op_appendU rfl W0.heap.size rv [] L h0 hrow hLn h1 (HL W hJ.low) (by first | omega | (simp; omega)) hJ.low.size ?_
      intro v' W' hown hgrow hat
      have f : Fr W W' (fun k => rv.ownBlock = some k) := Fr.grown hgrow (fun k hk => hk)
      have hde : (10 = 3 ∨ on 10) → v'.ownBlock ≠ some e := by
        intro h e0
        have h10 := h.resolve_left (by decide)
        rcases hat with h5 | h5
        · exact hJ.de (hd 1 (by kernel_rfl)) h10 (h5.symm.trans e0)
        · have h6 := h5.symm.trans e0
          have := lt_of_block (hJ.be h10)
          cases h6
          omega
      exact ⟨upd X 126 v', puts_put _ (by rw [← hds]; decide), v', L, e, bv, so, sc, ⟨hJ.low.trans (f.below hJ.low.size (fun k hk => (World.ownsRow.lt hrow k hk).1)), fun h => hJ.x123 (h.resolve_left (by decide)), fun _ h => absurd (.inl rfl) h, fun _ h => absurd (.inl rfl) h, fun h => hJ.x125 (h.resolve_left (by decide)), fun _ _ => rfl, fun _ _ => rfl, fun h => hJ.x127 (h.resolve_left (by decide)), fun h => absurd (hJ.c53 (h.resolve_left (by decide))) hn, fun h => absurd (hJ.c53 (h.resolve_left (by decide))) hn, fun _ => hown, fun h => hJ.x129 (h.resolve_left (by decide)), fun h => absurd (hJ.c53 (hJ.c65 (h.resolve_left (by decide)))) hn, fun h => hJ.x122 (h.resolve_left (by decide)), fun h => hJ.x130 (h.resolve_left (by decide)), fun h => hJ.x131 (h.resolve_left (by decide)), fun h => hJ.x18 (h.resolve_left (by decide)), fun h => (f.block _ (lt_of_block (hJ.be (h.resolve_left (by decide)))) (fun e0 => hJ.de (hd 1 (by kernel_rfl)) (h.resolve_left (by decide)) e0)).trans (hJ.be (h.resolve_left (by decide))), fun h => hJ.le (h.resolve_left (by decide)), fun _ h => hde h, fun h => hJ.se (h.resolve_left (by decide)), fun h => hJ.x19 (h.resolve_left (by decide)), fun _ => .inr (hd 1 (by kernel_rfl)), fun h => .inr (hJ.c53 (h.resolve_left (by decide))), fun h => .inr (hJ.c65 (h.resolve_left (by decide))), fun h => .inr (hJ.c76 (h.resolve_left (by decide))), fun h => .inr (hJ.c87 (h.resolve_left (by decide))), fun h => .inr (hJ.c118 (h.resolve_left (by decide))), fun h => .inr (hJ.c1110 (h.resolve_left (by decide)))⟩⟩
    · have h0 := hout (X := X) (k := 8) (by rw [← hds]; decide)
      rw [hA8] at h0
      refine op_value (v := .slice o m c) (w' := W) ?_ ?_
      · generalize (puts A X ds).eval = ρ at h0 ⊢
        go_simp
      · exact ⟨upd X 127 (.slice o m c), puts_put _ (by rw [← hds]; decide), rv, RL, e, bv, so, sc, ⟨hJ.low, fun h => hJ.x123 (h.resolve_left (by decide)), fun h h2 => hJ.x124 (h.resolve_left (by decide)) (fun h3 => h2 (.inr h3)), fun h h2 => hJ.l124 (h.resolve_left (by decide)) (fun h3 => h2 (.inr h3)), fun h => hJ.x125 (h.resolve_left (by decide)), fun h h2 => hJ.x126 (h.resolve_left (by decide)) (fun h3 => h2 (.inr h3)), fun h h2 => hJ.l126 (h.resolve_left (by decide)) (fun h3 => h2 (.inr h3)), fun _ => rfl, fun h => hJ.x128 (h.resolve_left (by decide)), fun h => hJ.l128 (h.resolve_left (by decide)), fun h => hJ.row (h.resolve_left (by decide)), fun h => hJ.x129 (h.resolve_left (by decide)), fun h => (hJ.gr (h.resolve_left (by decide))).mono (fun k _ hp h2 => hp (h2.resolve_left (by decide))), fun h => hJ.x122 (h.resolve_left (by decide)), fun h => hJ.x130 (h.resolve_left (by decide)), fun h => hJ.x131 (h.resolve_left (by decide)), fun h => hJ.x18 (h.resolve_left (by decide)), fun h => hJ.be (h.resolve_left (by decide)), fun h => hJ.le (h.resolve_left (by decide)), fun h h2 => hJ.de (h.resolve_left (by decide)) (h2.resolve_left (by decide)), fun h => hJ.se (h.resolve_left (by decide)), fun h => hJ.x19 (h.resolve_left (by decide)), fun h => .inr (hJ.c31 (h.resolve_left (by decide))), fun h => .inr (hJ.c53 (h.resolve_left (by decide))), fun h => .inr (hJ.c65 (h.resolve_left (by decide))), fun h => .inr (hJ.c76 (h.resolve_left (by decide))), fun h => .inr (hJ.c87 (h.resolve_left (by decide))), fun h => .inr (hJ.c118 (h.resolve_left (by decide))), fun h => .inr (hJ.c1110 (h.resolve_left (by decide)))⟩⟩
    · have hrow := hJ.row (hJ.c31 (hd 3 (by kernel_rfl)))
      have hl0 := hJ.l126 (hd 3 (by kernel_rfl)) hn
      have h0 := hin (X := X) (k := 126) (by rw [← hds]; decide)
      rw [hJ.x126 (hd 3 (by kernel_rfl)) hn] at h0
      have h1 := hin (X := X) (k := 127) (by rw [← hds]; decide)
      rw [hJ.x127 (hd 4 (by kernel_rfl))] at h1
      rw [hl0] at hrow
      refine op_appendU rfl W0.heap.size rv L T h0 hrow hTn h1 (HT W hJ.low) (by first | omega | (simp; omega)) hJ.low.size ?_
      intro v' W' hown hgrow hat
      have f : Fr W W' (fun k => rv.ownBlock = some k) := Fr.grown hgrow (fun k hk => hk)
      have hde : (10 = 5 ∨ on 10) → v'.ownBlock ≠ some e := by
        intro h e0
        have h10 := h.resolve_left (by decide)
        rcases hat with h5 | h5
        · exact hJ.de (hJ.c31 (hd 3 (by kernel_rfl))) h10 (h5.symm.trans e0)
        · have h6 := h5.symm.trans e0
          have := lt_of_block (hJ.be h10)
          cases h6
          omega
      exact ⟨upd X 128 v', puts_put _ (by rw [← hds]; decide), v', L ++ T, e, bv, so, sc, ⟨hJ.low.trans (f.below hJ.low.size (fun k hk => (World.ownsRow.lt hrow k hk).1)), fun h => hJ.x123 (h.resolve_left (by decide)), fun h h2 => absurd (.inr (hd 3 (by kernel_rfl))) h2, fun h h2 => absurd (.inr (hd 3 (by kernel_rfl))) h2, fun h => hJ.x125 (h.resolve_left (by decide)), fun _ h => absurd (.inl rfl) h, fun _ h => absurd (.inl rfl) h, fun h => hJ.x127 (h.resolve_left (by decide)), fun _ => rfl, fun _ => rfl, fun _ => hown, fun h => hJ.x129 (h.resolve_left (by decide)), fun h => absurd (hJ.c65 (h.resolve_left (by decide))) hn, fun h => hJ.x122 (h.resolve_left (by decide)), fun h => hJ.x130 (h.resolve_left (by decide)), fun h => hJ.x131 (h.resolve_left (by decide)), fun h => hJ.x18 (h.resolve_left (by decide)), fun h => (f.block _ (lt_of_block (hJ.be (h.resolve_left (by decide)))) (fun e0 => hJ.de (hJ.c31 (hd 3 (by kernel_rfl))) (h.resolve_left (by decide)) e0)).trans (hJ.be (h.resolve_left (by decide))), fun h => hJ.le (h.resolve_left (by decide)), fun _ h => hde h, fun h => hJ.se (h.resolve_left (by decide)), fun h => hJ.x19 (h.resolve_left (by decide)), fun h => .inr (hJ.c31 (h.resolve_left (by decide))), fun _ => .inr (hd 3 (by kernel_rfl)), fun h => .inr (hJ.c65 (h.resolve_left (by decide))), fun h => .inr (hJ.c76 (h.resolve_left (by decide))), fun h => .inr (hJ.c87 (h.resolve_left (by decide))), fun h => .inr (hJ.c118 (h.resolve_left (by decide))), fun h => .inr (hJ.c1110 (h.resolve_left (by decide)))⟩⟩
    · have hrow := hJ.row (hJ.c31 (hJ.c53 (hd 5 (by kernel_rfl))))
      have hl0 := hJ.l128 (hd 5 (by kernel_rfl))
      rw [hl0] at hrow
      have h0 := hin (X := X) (k := 123) (by rw [← hds]; decide)
      rw [hJ.x123 (hd 0 (by kernel_rfl))] at h0
      have h1 := hin (X := X) (k := 128) (by rw [← hds]; decide)
      rw [hJ.x128 (hd 5 (by kernel_rfl))] at h1
      have hrow' : UO W W0.heap.size rv (L ++ T) := hrow
      obtain ⟨o2, m2, c2, hrv⟩ := own_anyU hrow
      rw [hrv] at h1 hrow'
      obtain ⟨hU, hUm⟩ := UO.at_ hrow'
      have hf : (puts A X ds).eval (.func 16) = .func (.func 16) #[] #[] := rfl
      refine op_call (f := 16) (vs := #[.agg #[.slice ao gn cap], .slice o2 m2 c2]) ?_ ?_
      · generalize (puts A X ds).eval = ρ at h0 h1 hf ⊢
        go_simp
      · refine (apply_nv G cap (L ++ T) c2 hGn hUm (HG W hJ.low) hok hfi hu (by rw [hUm, List.length_append]; omega) hU hk hA).mono ?_
        rintro r W' ⟨so, sc, rfl, hV, hb⟩
        exact ⟨_, rfl, upd X 129 (.tuple #[.agg #[.slice so AG.length sc], .int .i64 an]), puts_put _ (by rw [← hds]; decide), rv, RL, e, bv, so, sc, ⟨hJ.low.trans (hb.mono hJ.low.size), fun h => hJ.x123 (h.resolve_left (by decide)), fun h h2 => hJ.x124 (h.resolve_left (by decide)) (fun h3 => h2 (.inr h3)), fun h h2 => hJ.l124 (h.resolve_left (by decide)) (fun h3 => h2 (.inr h3)), fun h => hJ.x125 (h.resolve_left (by decide)), fun h h2 => hJ.x126 (h.resolve_left (by decide)) (fun h3 => h2 (.inr h3)), fun h h2 => hJ.l126 (h.resolve_left (by decide)) (fun h3 => h2 (.inr h3)), fun h => hJ.x127 (h.resolve_left (by decide)), fun h => hJ.x128 (h.resolve_left (by decide)), fun h => hJ.l128 (h.resolve_left (by decide)), fun h => UO.new (hJ.row (h.resolve_left (by decide))) hb, fun _ => rfl, fun _ => hV.mono (fun k _ hp h2 => by have := lt_of_block (hJ.be (h2.resolve_left (by decide))); omega), fun h => absurd (hJ.c76 (h.resolve_left (by decide))) hn, fun h => absurd (hJ.c76 (hJ.c87 (h.resolve_left (by decide)))) hn, fun h => hJ.x131 (h.resolve_left (by decide)), fun h => hJ.x18 (h.resolve_left (by decide)), fun h => (hb.block _ (lt_of_block (hJ.be (h.resolve_left (by decide))))).trans (hJ.be (h.resolve_left (by decide))), fun h => hJ.le (h.resolve_left (by decide)), fun h h2 => hJ.de (h.resolve_left (by decide)) (h2.resolve_left (by decide)), fun h => absurd (hJ.c76 (hJ.c87 (hJ.c118 (h.resolve_left (by decide))))) hn, fun h => hJ.x19 (h.resolve_left (by decide)), fun h => .inr (hJ.c31 (h.resolve_left (by decide))), fun h => .inr (hJ.c53 (h.resolve_left (by decide))), fun _ => .inr (hd 5 (by kernel_rfl)), fun h => .inr (hJ.c76 (h.resolve_left (by decide))), fun h => .inr (hJ.c87 (h.resolve_left (by decide))), fun h => .inr (hJ.c118 (h.resolve_left (by decide))), fun h => .inr (hJ.c1110 (h.resolve_left (by decide)))⟩⟩
    · have h0 := hin (X := X) (k := 129) (by rw [← hds]; decide)
      rw [hJ.x129 (hd 6 (by kernel_rfl))] at h0
      refine op_value (v := .tuple #[.agg #[.slice so AG.length sc], .int .i64 an]) (w' := W) ?_ ?_
      · generalize (puts A X ds).eval = ρ at h0 ⊢
        go_simp
      · exact ⟨upd X 122 (.tuple #[.agg #[.slice so AG.length sc], .int .i64 an]), puts_put _ (by rw [← hds]; decide), rv, RL, e, bv, so, sc, ⟨hJ.low, fun h => hJ.x123 (h.resolve_left (by decide)), fun h h2 => hJ.x124 (h.resolve_left (by decide)) (fun h3 => h2 (.inr h3)), fun h h2 => hJ.l124 (h.resolve_left (by decide)) (fun h3 => h2 (.inr h3)), fun h => hJ.x125 (h.resolve_left (by decide)), fun h h2 => hJ.x126 (h.resolve_left (by decide)) (fun h3 => h2 (.inr h3)), fun h h2 => hJ.l126 (h.resolve_left (by decide)) (fun h3 => h2 (.inr h3)), fun h => hJ.x127 (h.resolve_left (by decide)), fun h => hJ.x128 (h.resolve_left (by decide)), fun h => hJ.l128 (h.resolve_left (by decide)), fun h => hJ.row (h.resolve_left (by decide)), fun h => hJ.x129 (h.resolve_left (by decide)), fun h => (hJ.gr (h.resolve_left (by decide))).mono (fun k _ hp h2 => hp (h2.resolve_left (by decide))), fun _ => rfl, fun h => hJ.x130 (h.resolve_left (by decide)), fun h => hJ.x131 (h.resolve_left (by decide)), fun h => hJ.x18 (h.resolve_left (by decide)), fun h => hJ.be (h.resolve_left (by decide)), fun h => hJ.le (h.resolve_left (by decide)), fun h h2 => hJ.de (h.resolve_left (by decide)) (h2.resolve_left (by decide)), fun h => hJ.se (h.resolve_left (by decide)), fun h => hJ.x19 (h.resolve_left (by decide)), fun h => .inr (hJ.c31 (h.resolve_left (by decide))), fun h => .inr (hJ.c53 (h.resolve_left (by decide))), fun h => .inr (hJ.c65 (h.resolve_left (by decide))), fun _ => .inr (hd 6 (by kernel_rfl)), fun h => .inr (hJ.c87 (h.resolve_left (by decide))), fun h => .inr (hJ.c118 (h.resolve_left (by decide))), fun h => .inr (hJ.c1110 (h.resolve_left (by decide)))⟩⟩
    · have h0 := hin (X := X) (k := 122) (by rw [← hds]; decide)
      rw [hJ.x122 (hd 7 (by kernel_rfl))] at h0
      refine op_value (v := .agg #[.slice so AG.length sc]) (w' := W) ?_ ?_
      · generalize (puts A X ds).eval = ρ at h0 ⊢
        go_simp
      · exact ⟨upd X 130 (.agg #[.slice so AG.length sc]), puts_put _ (by rw [← hds]; decide), rv, RL, e, bv, so, sc, ⟨hJ.low, fun h => hJ.x123 (h.resolve_left (by decide)), fun h h2 => hJ.x124 (h.resolve_left (by decide)) (fun h3 => h2 (.inr h3)), fun h h2 => hJ.l124 (h.resolve_left (by decide)) (fun h3 => h2 (.inr h3)), fun h => hJ.x125 (h.resolve_left (by decide)), fun h h2 => hJ.x126 (h.resolve_left (by decide)) (fun h3 => h2 (.inr h3)), fun h h2 => hJ.l126 (h.resolve_left (by decide)) (fun h3 => h2 (.inr h3)), fun h => hJ.x127 (h.resolve_left (by decide)), fun h => hJ.x128 (h.resolve_left (by decide)), fun h => hJ.l128 (h.resolve_left (by decide)), fun h => hJ.row (h.resolve_left (by decide)), fun h => hJ.x129 (h.resolve_left (by decide)), fun h => (hJ.gr (h.resolve_left (by decide))).mono (fun k _ hp h2 => hp (h2.resolve_left (by decide))), fun h => hJ.x122 (h.resolve_left (by decide)), fun _ => rfl, fun h => hJ.x131 (h.resolve_left (by decide)), fun h => hJ.x18 (h.resolve_left (by decide)), fun h => hJ.be (h.resolve_left (by decide)), fun h => hJ.le (h.resolve_left (by decide)), fun h h2 => hJ.de (h.resolve_left (by decide)) (h2.resolve_left (by decide)), fun h => hJ.se (h.resolve_left (by decide)), fun h => hJ.x19 (h.resolve_left (by decide)), fun h => .inr (hJ.c31 (h.resolve_left (by decide))), fun h => .inr (hJ.c53 (h.resolve_left (by decide))), fun h => .inr (hJ.c65 (h.resolve_left (by decide))), fun h => .inr (hJ.c76 (h.resolve_left (by decide))), fun _ => .inr (hd 7 (by kernel_rfl)), fun h => .inr (hJ.c118 (h.resolve_left (by decide))), fun h => .inr (hJ.c1110 (h.resolve_left (by decide)))⟩⟩
    · have h0 := hin (X := X) (k := 122) (by rw [← hds]; decide)
      rw [hJ.x122 (hd 7 (by kernel_rfl))] at h0
      refine op_value (v := .int .i64 an) (w' := W) ?_ ?_
      · generalize (puts A X ds).eval = ρ at h0 ⊢
        go_simp
      · exact ⟨upd X 131 (.int .i64 an), puts_put _ (by rw [← hds]; decide), rv, RL, e, bv, so, sc, ⟨hJ.low, fun h => hJ.x123 (h.resolve_left (by decide)), fun h h2 => hJ.x124 (h.resolve_left (by decide)) (fun h3 => h2 (.inr h3)), fun h h2 => hJ.l124 (h.resolve_left (by decide)) (fun h3 => h2 (.inr h3)), fun h => hJ.x125 (h.resolve_left (by decide)), fun h h2 => hJ.x126 (h.resolve_left (by decide)) (fun h3 => h2 (.inr h3)), fun h h2 => hJ.l126 (h.resolve_left (by decide)) (fun h3 => h2 (.inr h3)), fun h => hJ.x127 (h.resolve_left (by decide)), fun h => hJ.x128 (h.resolve_left (by decide)), fun h => hJ.l128 (h.resolve_left (by decide)), fun h => hJ.row (h.resolve_left (by decide)), fun h => hJ.x129 (h.resolve_left (by decide)), fun h => (hJ.gr (h.resolve_left (by decide))).mono (fun k _ hp h2 => hp (h2.resolve_left (by decide))), fun h => hJ.x122 (h.resolve_left (by decide)), fun h => hJ.x130 (h.resolve_left (by decide)), fun _ => rfl, fun h => hJ.x18 (h.resolve_left (by decide)), fun h => hJ.be (h.resolve_left (by decide)), fun h => hJ.le (h.resolve_left (by decide)), fun h h2 => hJ.de (h.resolve_left (by decide)) (h2.resolve_left (by decide)), fun h => hJ.se (h.resolve_left (by decide)), fun h => hJ.x19 (h.resolve_left (by decide)), fun h => .inr (hJ.c31 (h.resolve_left (by decide))), fun h => .inr (hJ.c53 (h.resolve_left (by decide))), fun h => .inr (hJ.c65 (h.resolve_left (by decide))), fun h => .inr (hJ.c76 (h.resolve_left (by decide))), fun h => .inr (hJ.c87 (h.resolve_left (by decide))), fun h => .inr (hJ.c118 (h.resolve_left (by decide))), fun h => .inr (hJ.c1110 (h.resolve_left (by decide)))⟩⟩
    · have hb : Below W.heap.size W (W.alloc (.cells #[.slice none 0 0] 24)) := one_newU _ _
      refine op_value (v := .pointer (some ⟨W.heap.size, 0, none⟩)) (w' := W.alloc (.cells #[.slice none 0 0] 24)) ?_ ?_
      · generalize (puts A X ds).eval = ρ
        go_simp
      · exact ⟨upd X 18 (.pointer (some ⟨W.heap.size, 0, none⟩)), puts_put _ (by rw [← hds]; decide), rv, RL, W.heap.size, .slice none 0 0, so, sc, ⟨hJ.low.trans (hb.mono hJ.low.size), fun h => hJ.x123 (h.resolve_left (by decide)), fun h h2 => hJ.x124 (h.resolve_left (by decide)) (fun h3 => h2 (.inr h3)), fun h h2 => hJ.l124 (h.resolve_left (by decide)) (fun h3 => h2 (.inr h3)), fun h => hJ.x125 (h.resolve_left (by decide)), fun h h2 => hJ.x126 (h.resolve_left (by decide)) (fun h3 => h2 (.inr h3)), fun h h2 => hJ.l126 (h.resolve_left (by decide)) (fun h3 => h2 (.inr h3)), fun h => hJ.x127 (h.resolve_left (by decide)), fun h => hJ.x128 (h.resolve_left (by decide)), fun h => hJ.l128 (h.resolve_left (by decide)), fun h => UO.new (hJ.row (h.resolve_left (by decide))) hb, fun h => hJ.x129 (h.resolve_left (by decide)), fun h => (hJ.gr (h.resolve_left (by decide))).kept (Fr.ofBelow hb (fun _ => False)) (fun k hk _ => ⟨fun h => h, fun _ => by omega⟩), fun h => hJ.x122 (h.resolve_left (by decide)), fun h => hJ.x130 (h.resolve_left (by decide)), fun h => hJ.x131 (h.resolve_left (by decide)), fun _ => rfl, fun _ => heap_alloc_new _ _, fun _ => hJ.low.size, fun h _ e0 => by have := (World.ownsRow.lt (hJ.row (h.resolve_left (by decide))) _ e0).2; omega, fun h => absurd (hJ.c1110 (h.resolve_left (by decide))) hn, fun h => hJ.x19 (h.resolve_left (by decide)), fun h => .inr (hJ.c31 (h.resolve_left (by decide))), fun h => .inr (hJ.c53 (h.resolve_left (by decide))), fun h => .inr (hJ.c65 (h.resolve_left (by decide))), fun h => .inr (hJ.c76 (h.resolve_left (by decide))), fun h => .inr (hJ.c87 (h.resolve_left (by decide))), fun h => .inr (hJ.c118 (h.resolve_left (by decide))), fun h => .inr (hJ.c1110 (h.resolve_left (by decide)))⟩⟩
    · have h0 := hin (X := X) (k := 18) (by rw [← hds]; decide)
      rw [hJ.x18 (hd 10 (by kernel_rfl))] at h0
      have h1 := hin (X := X) (k := 130) (by rw [← hds]; decide)
      rw [hJ.x130 (hd 8 (by kernel_rfl))] at h1
      have f : Fr W (W.setCell ⟨e, 0, none⟩ (.slice so AG.length sc)) (fun k => k = e) := Fr.setCell (S := fun k => k = e) W ⟨e, 0, none⟩ _ rfl
      have hbx := hJ.be (hd 10 (by kernel_rfl))
      refine op_skip (w' := W.setCell ⟨e, 0, none⟩ (.slice so AG.length sc)) ?_ ?_
      · generalize (puts A X ds).eval = ρ at h0 h1 ⊢
        have z0 := cellG1 hbx
        have z1 := softG1 hbx
        go_simp
      · exact ⟨X, rfl, rv, RL, e, .slice so AG.length sc, so, sc, ⟨hJ.low.trans (f.below hJ.low.size (fun k hk => by rw [hk]; exact hJ.le (hd 10 (by kernel_rfl)))), fun h => hJ.x123 (h.resolve_left (by decide)), fun h h2 => hJ.x124 (h.resolve_left (by decide)) (fun h3 => h2 (.inr h3)), fun h h2 => hJ.l124 (h.resolve_left (by decide)) (fun h3 => h2 (.inr h3)), fun h => hJ.x125 (h.resolve_left (by decide)), fun h h2 => hJ.x126 (h.resolve_left (by decide)) (fun h3 => h2 (.inr h3)), fun h h2 => hJ.l126 (h.resolve_left (by decide)) (fun h3 => h2 (.inr h3)), fun h => hJ.x127 (h.resolve_left (by decide)), fun h => hJ.x128 (h.resolve_left (by decide)), fun h => hJ.l128 (h.resolve_left (by decide)), fun h => own_keep (hJ.row (h.resolve_left (by decide))) f (fun k hk e0 => hJ.de (h.resolve_left (by decide)) (hd 10 (by kernel_rfl)) (by rw [hk, e0])), fun h => hJ.x129 (h.resolve_left (by decide)), fun h => (hJ.gr (h.resolve_left (by decide))).kept f (fun k _ hp => ⟨hp (hd 10 (by kernel_rfl)), fun _ => hp (hd 10 (by kernel_rfl))⟩), fun h => hJ.x122 (h.resolve_left (by decide)), fun h => hJ.x130 (h.resolve_left (by decide)), fun h => hJ.x131 (h.resolve_left (by decide)), fun h => hJ.x18 (h.resolve_left (by decide)), fun _ => blk_setU _ (hJ.be (hd 10 (by kernel_rfl))), fun h => hJ.le (h.resolve_left (by decide)), fun h h2 => hJ.de (h.resolve_left (by decide)) (h2.resolve_left (by decide)), fun _ => rfl, fun h => hJ.x19 (h.resolve_left (by decide)), fun h => .inr (hJ.c31 (h.resolve_left (by decide))), fun h => .inr (hJ.c53 (h.resolve_left (by decide))), fun h => .inr (hJ.c65 (h.resolve_left (by decide))), fun h => .inr (hJ.c76 (h.resolve_left (by decide))), fun h => .inr (hJ.c87 (h.resolve_left (by decide))), fun _ => .inr (hd 8 (by kernel_rfl)), fun _ => .inr (hd 10 (by kernel_rfl))⟩⟩
    · have h0 := hin (X := X) (k := 131) (by rw [← hds]; decide)
      rw [hJ.x131 (hd 9 (by kernel_rfl))] at h0
      refine op_value (v := .int .i64 an) (w' := W) ?_ ?_
      · generalize (puts A X ds).eval = ρ at h0 ⊢
        go_simp
      · exact ⟨upd X 19 (.int .i64 an), puts_put _ (by rw [← hds]; decide), rv, RL, e, bv, so, sc, ⟨hJ.low, fun h => hJ.x123 (h.resolve_left (by decide)), fun h h2 => hJ.x124 (h.resolve_left (by decide)) (fun h3 => h2 (.inr h3)), fun h h2 => hJ.l124 (h.resolve_left (by decide)) (fun h3 => h2 (.inr h3)), fun h => hJ.x125 (h.resolve_left (by decide)), fun h h2 => hJ.x126 (h.resolve_left (by decide)) (fun h3 => h2 (.inr h3)), fun h h2 => hJ.l126 (h.resolve_left (by decide)) (fun h3 => h2 (.inr h3)), fun h => hJ.x127 (h.resolve_left (by decide)), fun h => hJ.x128 (h.resolve_left (by decide)), fun h => hJ.l128 (h.resolve_left (by decide)), fun h => hJ.row (h.resolve_left (by decide)), fun h => hJ.x129 (h.resolve_left (by decide)), fun h => (hJ.gr (h.resolve_left (by decide))).mono (fun k _ hp h2 => hp (h2.resolve_left (by decide))), fun h => hJ.x122 (h.resolve_left (by decide)), fun h => hJ.x130 (h.resolve_left (by decide)), fun h => hJ.x131 (h.resolve_left (by decide)), fun h => hJ.x18 (h.resolve_left (by decide)), fun h => hJ.be (h.resolve_left (by decide)), fun h => hJ.le (h.resolve_left (by decide)), fun h h2 => hJ.de (h.resolve_left (by decide)) (h2.resolve_left (by decide)), fun h => hJ.se (h.resolve_left (by decide)), fun _ => rfl, fun h => .inr (hJ.c31 (h.resolve_left (by decide))), fun h => .inr (hJ.c53 (h.resolve_left (by decide))), fun h => .inr (hJ.c65 (h.resolve_left (by decide))), fun h => .inr (hJ.c76 (h.resolve_left (by decide))), fun h => .inr (hJ.c87 (h.resolve_left (by decide))), fun h => .inr (hJ.c118 (h.resolve_left (by decide))), fun h => .inr (hJ.c1110 (h.resolve_left (by decide)))⟩⟩
end Go.Proofs.Ythnhmhjcpdomcaa
end
