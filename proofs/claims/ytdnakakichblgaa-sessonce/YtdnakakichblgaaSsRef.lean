/- The law's own sessions: find, wrong. -/
import Derived.Test.YtdnakakichblgaaSsAk
import Derived.Test.YtdnakakichblgaaGrBytes
namespace Go.Proofs.Ytdnakakichblgaa
open Go.RowKit
attribute [local go_sem] Oper.semAt_some
set_option maxRecDepth 100000 in
theorem refsigned_s (k : Int) (w : World) (h : I64 k) :
    Calls Try.prog 17 #[.int .i64 k] w fun e w' => e = .returned (.string (str (sgB k))) ∧ Below w.heap.size w w' := by
  obtain ⟨h1, h2⟩ := h
  unfold sgB
  obtain ⟨m, HM⟩ : ∃ m : Nat, Hid (foldN k = m) := ⟨(foldN k).toNat, (Int.toNat_of_nonneg (fold_bd k h1 h2).1).symm⟩
  have hm : m < 18446744073709551616 := by have := fold_bd k h1 h2; have := HM.out; omega
  have hF : ∀ w, Calls Try.prog 36 #[.int .i64 k] w fun e w' => e = .returned (.int .u64 m) ∧ w' = w := fun w => by have := reffold_any k w h1 h2; rw [HM.out] at this; exact this
  rw [show (foldN k).toNat = m by rw [HM.out]; rfl]
  go_enter Try.func17, Try.ntmps17
  go_wp2_with (first
    | (go_at_call 36; refine (hF _).mono ?_; rintro r w1 ⟨rfl, rfl⟩)
    | (go_at_call 16; refine (refnumber_any m _ hm).mono ?_; rintro r w2 ⟨rfl, hh⟩))
  go_ret
  exact ⟨rfl, hh⟩
theorem look_cases (L : List Req) (k n : Int) : lookR L k n = ((lastR L k).s, true, 0) ∨ (∃ e, e ≠ 0 ∧ lookR L k n = (str [], false, e)) ∨ lookR L k n = (str [], false, 0) := by
  unfold lookR
  split
  · exact .inr (.inl ⟨1, by decide, rfl⟩)
  · split
    · exact .inl rfl
    · split
      · exact .inr (.inl ⟨150, by decide, rfl⟩)
      · split
        · exact .inr (.inl ⟨151, by decide, rfl⟩)
        · split
          · exact .inr (.inl ⟨3, by decide, rfl⟩)
          · exact .inr (.inr rfl)
/-- The law's row is no block of a table. -/
theorem TA.aside {w : World} {B p : Nat} {v : Value} {L : List Req} {C : Nat} {u : Value} {M : List Req} (h : TA w B p v L) (hm : RqO 39 w C u M) : ∀ k, u.ownBlock = some k → k ≠ p ∧ v.ownBlock ≠ some k := fun k hk => by
  obtain ⟨_, c, f, h1⟩ := srow_tag hm hk
  refine ⟨fun e => ?_, fun e => ?_⟩
  · subst e
    rw [h.box] at h1
    simp at h1
  · obtain ⟨_, c2, f2, h2⟩ := srow_tag h.row e
    rw [h1] at h2
    simp at h2
theorem RqO.beside {w w' : World} {B p : Nat} {v : Value} {L : List Req} {C : Nat} {u : Value} {M : List Req} (hm : RqO 39 w C u M) (h : TA w B p v L) (hf : Fr w w' (fun k => k = p ∨ v.ownBlock = some k)) : RqO 39 w' C u M :=
  hm.kept hf (fun k hk e => e.elim (h.aside hm k hk).1 (h.aside hm k hk).2)
theorem TA.beside {w w' : World} {B p : Nat} {v : Value} {L : List Req} {C : Nat} {u : Value} {M : List Req} (h : TA w B p v L) (hm : RqO 39 w C u M) (hf : Fr w w' (fun k => u.ownBlock = some k)) : TA w' B p v L :=
  h.kept hf (fun e => (h.aside hm p e).1 rfl) (fun k hk e => (h.aside hm k e).2 hk)
theorem RqO.made {e : TypeId} {w : World} {g : Nat} (h : w.heap[g]? = some (.cells #[] e (0, 0))) : RqO e w g (.slice (some ⟨g, 0, none⟩) 0 0) [] :=
  ⟨rfl, .inr ⟨g, 0, #[], rfl, Nat.le_refl _, h, Nat.le_refl _, by unfold maxLen; omega, rfl, rfl⟩⟩
theorem RqO.lower {e : TypeId} {w : World} {B C : Nat} {v : Value} {L : List Req} (h : RqO e w B v L) (hC : C ≤ B) : RqO e w C v L := by
  refine ⟨h.1, ?_⟩
  rcases h.2 with h2 | ⟨g, cap, cur, rfl, h3, h4⟩
  · exact .inl h2
  · exact .inr ⟨g, cap, cur, rfl, Nat.le_trans hC h3, h4⟩
set_option maxRecDepth 100000 in
set_option maxHeartbeats 2000000 in
theorem lfind {w : World} {v : Value} {G : List Req} (x : Int) (h : RqS w v G) (hl : G.length ≤ 1073741824) (hr : RiseQ G) :
    Calls Try.prog 12 #[v, .int .i64 x] w fun r w' => r = .returned (.tuple #[.int .i64 (posR G x), .bool (isR G x)]) ∧ Below w.heap.size w w' := by
  have HR : Hid (RiseQ G) := hr
  clear hr
  obtain ⟨ao, cap, rfl, hcap, hC⟩ := h
  have HC : Hid (0 < G.length → ∃ b off, ao = some ⟨b, off, none⟩ ∧ ∀ j (h : j < G.length), w.cell? ⟨b, off + j * 3, none⟩ = some (.int .i64 G[j].k) ∧ w.cell? ⟨b, off + j * 3 + 1, none⟩ = some (.int .i64 G[j].n) ∧ w.cell? ⟨b, off + j * 3 + 2, none⟩ = some (.string G[j].s)) := hC
  clear hC hcap
  go_enter Try.func12, Try.ntmps12
  go_wp2
  go_loopw [6] (fun u wr => ∃ (i : Nat), i ≤ G.length ∧ u = .int .i64 i ∧ Hid (∀ q (h : q < G.length), q < i → G[q].k < x) ∧ wr = w) (fun u _ => G.length - (intOf u).toNat)
  case atStart => exact ⟨0, Nat.zero_le _, rfl, fun q _ hq => absurd hq (by omega), rfl⟩
  case round =>
    obtain ⟨i, hi, rfl, H1, rfl⟩ := hrel
    by_cases hlt : i < G.length
    · obtain ⟨b, off, rfl, hc⟩ := HC.out (by omega)
      obtain ⟨d0, _, _⟩ := hc i hlt
      have hin : (i : Int) < G.length := by omega
      have HU : Hid (G[i].k < x → ∀ q (h : q < G.length), q < i + 1 → G[q].k < x) := fun hy q hq hqm => by
        by_cases e : q = i
        · subst e; exact hy
        · exact H1.out q hq (by omega)
      have HV : Hid (¬ G[i].k < x → posR G x = i) := fun hy => pos_eq (by omega) H1.out (fun q hq hqi => by
        by_cases e : q = i
        · subst e; omega
        · have := rise_lt HR.out (show i < q by omega) hq
          omega)
      have HB : Hid (posR G x = i → isR G x = (G[i].k == x)) := fun hp => by
        show _ = _
        unfold isR
        rw [hp, List.getElem?_eq_getElem hlt]
        rfl
      generalize G[i] = y at d0 HU HV HB
      clear hc
      by_cases hy : y.k < x
      · have HU2 : Hid (∀ q (h : q < G.length), q < i + 1 → G[q].k < x) := HU.out hy
        go_wp2
        go_roundw
        case rel => exact ⟨i + 1, by omega, by go_num, HU2, trivial⟩
        case measure => simp [intOf]; omega
      · have HF : Hid (posR G x = i) := HV.out hy
        have HB2 : Hid (isR G x = (y.k == x)) := HB.out HF.out
        go_wp2
        go_quiet (fail)
        go_wp2
        go_ret2
        exact ⟨by rw [HF.out, HB2.out]; first | done | rfl, sbelow_dn _ _ _⟩
    · have hin : ¬ (i : Int) < G.length := by omega
      have HF : Hid (posR G x = i) := pos_eq hi H1.out (fun q hq hqi => absurd hqi (by omega))
      have HB2 : Hid (isR G x = false) := by
        show _ = _
        unfold isR
        rw [HF.out, List.getElem?_eq_none (by omega)]
      go_wp2
      go_quiet (fail)
      go_wp2
      go_ret2
      exact ⟨by rw [HF.out, HB2.out]; first | done | rfl, sbelow_dn _ _ _⟩
end Go.Proofs.Ytdnakakichblgaa
