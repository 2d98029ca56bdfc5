import Derived.Test.YtcfbmgbhpihdcaaSpNbrM
import Derived.BigQuiet
/- What Matched's own question says: whether a place is free; and slices.ContainsFunc of it over a row of neighbours. -/
namespace Go.Proofs.Ytcfbmgbhpihdcaa
open Go.RowKit Go.Shelf
attribute [local go_sem] Oper.semAt_some
/-- What the question reads: the partners in one variable's cell, the web in another's. -/
structure FreeAt (W : World) (Bl Bw : Nat) (lo : Option Addr) (gi n lc ci : Nat) (P I : List Int) : Prop where
  l : W.cell? ⟨Bl, 0, none⟩ = some (.slice lo n lc)
  i : W.cell? ⟨Bw, 0, none⟩ = some (.slice (some ⟨gi, 0, none⟩) n ci)
  pl : P.length = n
  il : I.length = n
  p : ∀ j (h : j < P.length), ∃ g o, lo = some ⟨g, o, none⟩ ∧ W.cell? ⟨g, o + j, none⟩ = some (.int .i64 P[j])
  q : ∀ j (h : j < I.length), W.cell? ⟨gi, j, none⟩ = some (.int .i64 I[j])
theorem FreeAt.new {W W' : World} {Bl Bw : Nat} {lo : Option Addr} {gi n lc ci : Nat} {P I : List Int} (h : FreeAt W Bl Bw lo gi n lc ci P I) (hb : Below W.heap.size W W') : FreeAt W' Bl Bw lo gi n lc ci P I :=
  ⟨(hb.cell (p := ⟨Bl, 0, none⟩) (lt_cell h.l)).trans h.l, (hb.cell (p := ⟨Bw, 0, none⟩) (lt_cell h.i)).trans h.i, h.pl, h.il, fun j hj => by
    obtain ⟨g, o, e, hc⟩ := h.p j hj
    exact ⟨g, o, e, (hb.cell (p := ⟨g, o + j, none⟩) (lt_cell hc)).trans hc⟩, fun j hj => (hb.cell (p := ⟨gi, j, none⟩) (lt_cell (h.q j hj))).trans (h.q j hj)⟩
def freeB (P I : List Int) (j : Nat) : Bool := P.getD j 0 == I.getD j 0
set_option maxRecDepth 100000 in
set_option maxHeartbeats 1000000 in
theorem free_any {W : World} {Bl Bw : Nat} {lo : Option Addr} {gi n lc ci : Nat} {P I : List Int} (h : FreeAt W Bl Bw lo gi n lc ci P I) (j : Nat) (hj : j < n) :
    Calls Try.prog 51 #[.int .i64 (j : Nat), .pointer (some ⟨Bl, 0, none⟩), .pointer (some ⟨Bw, 0, none⟩)] W fun r w' => r = .returned (.bool (freeB P I j)) ∧ ∃ q, w' = W.drewN q := by
  have hp : j < P.length := by rw [h.pl]; exact hj
  have hi : j < I.length := by rw [h.il]; exact hj
  obtain ⟨g, o, rfl, c1⟩ := h.p j hp
  have c2 := h.q j hi
  have c3 := h.l
  have c4 := h.i
  have HR : Hid (freeB P I j = (P[j] == I[j])) := by show _ = _; unfold freeB; simp [List.getD, hp, hi]
  generalize freeB P I j = b at HR ⊢
  generalize P[j] = x at c1 HR
  generalize I[j] = y at c2 HR
  clear h hp hi
  go_enter Try.func51, Try.ntmps51
  go_wp2
  go_quiet (fail)
  go_wp2
  go_ret
  exact ⟨by rw [HR.out]; rfl, _, rfl⟩
theorem fins_of {n : Nat} : ∀ {L : List Int}, (∀ x ∈ L, ∃ j : Nat, j < n ∧ x = j) → ∃ zs : List (Fin n), zs.map (fun j => ((j.val : Nat) : Int)) = L
  | [], _ => ⟨[], rfl⟩
  | x :: L, h => by
    obtain ⟨zs, rfl⟩ := fins_of (fun y hy => h y (List.mem_cons_of_mem _ hy))
    obtain ⟨j, hj, rfl⟩ := h x List.mem_cons_self
    exact ⟨⟨j, hj⟩ :: zs, rfl⟩
theorem contains_free {W : World} {Bl Bw : Nat} {lo : Option Addr} {gi n lc ci : Nat} {P I : List Int} (h : FreeAt W Bl Bw lo gi n lc ci P I) {base : Nat} {v : Value} {L : List Int} (hv : RwI W 3 base v L) (hL : ∀ x ∈ L, ∃ j : Nat, j < n ∧ x = j) (hl : L.length ≤ 4096) :
    Calls Try.prog 52 #[v, .func (.func 51) #[] #[.pointer (some ⟨Bl, 0, none⟩), .pointer (some ⟨Bw, 0, none⟩)]] W fun r w' => r = .returned (.bool (L.any (fun x => freeB P I x.toNat))) ∧ Below W.heap.size W w' := by
  obtain ⟨ao, c, rfl, hc⟩ := nb_row hv
  rcases Nat.eq_zero_or_pos L.length with h0 | h0
  · have : L = [] := List.eq_nil_of_length_eq_zero h0
    subst this
    refine Calls.mono (AnyE.slices_ContainsFunc_empty layContI ao c _ W) ?_
    rintro r w' ⟨rfl, rfl⟩
    exact ⟨rfl, Below.refl _ _⟩
  · obtain ⟨g, rfl, hcell⟩ := hc h0
    obtain ⟨zs, rfl⟩ := fins_of hL
    rw [List.length_map] at h0 hl
    have hn0 : 0 < n := (zs[0]).pos
    haveI : Inhabited (Fin n) := ⟨⟨0, hn0⟩⟩
    have eg : ∀ args w, (callFunc 51 args).run Try.prog w = .ok (.enter 51 args) w := enters_of Try.func51 (by kernel_rfl) rfl
    have := AnyE.slices_ContainsFunc layContI (fun j : Fin n => Value.int .i64 (j.val : Nat)) (fun j => freeB P I j.val) 51 #[.pointer (some ⟨Bl, 0, none⟩), .pointer (some ⟨Bw, 0, none⟩)] eg g 0 zs.length c zs W (fun W' x hb => free_any (h.new hb) x.val x.isLt) (Nat.le_refl _) (by omega) (fun j hj => by
      have := hcell j (by simpa using hj)
      rw [Nat.zero_add, this]
      simp [hj])
    rw [List.take_length] at this
    rw [List.length_map]
    refine Calls.mono this ?_
    rintro r w' ⟨rfl, q, rfl⟩
    refine ⟨?_, bel_drewN (Below.refl _ _) q⟩
    rw [List.any_map]
    rfl
end Go.Proofs.Ytcfbmgbhpihdcaa
