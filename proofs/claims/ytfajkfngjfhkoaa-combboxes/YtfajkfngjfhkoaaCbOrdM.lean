/- CombOrders: All of a box; what a range that collects holds; turned lists. -/
import Derived.Test.YtfajkfngjfhkoaaCbAll
import Derived.Test.YtfajkfngjfhkoaaCbBefore
import Derived.Test.YtfajkfngjfhkoaaCbLaw1
import Derived.Maps.OwnIn
namespace Go.Proofs.Ytfajkfngjfhkoaa
open Go.RowKit Go.Shelf Go.Maps
theorem mcloneB {w : World} {O : Nat → Prop} {N : Nat} {B : List Msg} {mv : Value} (h : MH w O N B mv) : Calls Try.prog 60 #[mv] w fun e w' => ∃ mv', e = .returned mv' ∧ MH w' (fun k => O k ∨ w.heap.size ≤ k) N B mv' ∧ Below w.heap.size w w' := by
  rcases h with ⟨rfl, h⟩ | ⟨M, D, rfl, h⟩
  · exact (AnyW.maps_Clone_nil layMClone w).mono fun e w' ⟨h1, h2⟩ => by subst h2; exact ⟨_, h1, .none h, Below.refl _ _⟩
  · refine (AnyW.maps_Clone_owns layMClone 2 heldR M N D w h.own).mono fun e w' ⟨h1, h2, h3, h4⟩ => ⟨_, h1, .some w.heap.size D ?_, h4⟩
    have hn := h.new h4
    exact ⟨h2, Or.inr (Nat.le_refl _), fun id k hk => Or.inl (h.rowS id k hk), hn.rows, h.has, h.apart⟩
theorem allB_fn {w : World} {O : Nat → Prop} {b N : Nat} {B : List Msg} (hX : BX w O b N B) : Calls Try.prog 34 #[.pointer (some ⟨b, 0, none⟩)] w fun r w' => ∃ Bs mv, r = .returned (.func (.func 61) #[] #[.pointer (some ⟨Bs, 0, none⟩)]) ∧ w'.cell? ⟨Bs, 0, none⟩ = some mv ∧ MH w' (fun k => O k ∨ w.heap.size ≤ k) N B mv ∧ Below w.heap.size w w' := by
  have hmf : ∀ (fn : Fn) (first cap : Array Value) (w : World), (Instr.makeFunc fn first cap).run Try.prog w = .ok (.func fn first cap) w := fun _ _ _ _ => rfl
  obtain ⟨⟨mv, h1, h2⟩, h3⟩ := hX
  have H1 : Hid _ := h1
  have H2 : Hid _ := h2
  clear h1 h2
  go_enter Try.func34, Try.ntmps34
  go_wp2_with (first
    | (go_at_call 58; refine (held_box H1.out).mono ?_; rintro e w1 ⟨rfl, rfl⟩)
    | (go_at_call 60; refine (mcloneB H2.out).mono ?_; rintro e w2 ⟨mv', rfl, hm, hb⟩; obtain ⟨mo, rfl⟩ := hm.isMap))
  go_ret
  exact ⟨w2.heap.size, _, rfl, (bx_one (heap_alloc_new _ _)).1, hm.kept (Fr.alloc _ _ (fun _ => False)) (fun _ _ h => h), hb.alloc hb.size _⟩
/-- What a range that collects messages holds. -/
structure CP (w0 W : World) (bp br : Nat) (L : List Msg) (T : Nat → Prop) : Prop where
  row : ∃ sv, W.heap[bp]? = some (.cells #[sv] 58 (0, 0)) ∧ Mo W 67 sv L ∧ ∀ k, sv.ownBlock = some k → T k ∧ k ≠ bp ∧ (k = br ∨ w0.heap.size ≤ k)
  tob : T bp
  fr : Fr w0 W (fun k => k = bp ∨ k = br ∨ w0.heap.size ≤ k)
theorem CP.stands {w0 : World} {bp br : Nat} : Stands w0.heap.size (fun L T W => CP w0 W bp br L T) := by
  rintro L T W W' ⟨⟨sv, h1, h2, h3⟩, h4, h5⟩ f
  exact ⟨⟨sv, (f.block _ (m_lt h1) (fun h => h.2 h4)).trans h1, h2.fr f (fun k hk h => h.2 (h3 k hk).1), h3⟩, h4, h5.trans f (fun k hk h => .inr (.inr h.1))⟩
/-- One message more: the row has grown or lies anew, and its header is stored. -/
theorem CP.push {w0 W2 w4 : World} {bp br : Nat} {L : List Msg} {T : Nat → Prop} {x : Msg} {sv sv' : Value} {o : Obj}
    (o0 : W2.heap[bp]? = some (.cells #[sv] 58 (0, 0))) (g3 : ∀ k, sv.ownBlock = some k → T k ∧ k ≠ bp ∧ (k = br ∨ w0.heap.size ≤ k)) (hT : T bp) (hf : Fr w0 W2 (fun k => k = bp ∨ k = br ∨ w0.heap.size ≤ k)) (hlt : bp < W2.heap.size)
    (own : w4.ownsRow 0 67 4 sv' (L.length + 1) (L.flatMap msgCells ++ msgCells x)) (gr : (W2.alloc o).grownBy w4 sv.ownBlock) (hat : sv'.ownBlock = sv.ownBlock ∨ sv'.ownBlock = some (W2.alloc o).heap.size) :
    ∃ T', Fr W2 (w4.setCell ⟨bp, 0, none⟩ sv') T ∧ Grows W2 (w4.setCell ⟨bp, 0, none⟩ sv') T T' ∧ CP w0 (w4.setCell ⟨bp, 0, none⟩ sv') bp br (L ++ [x]) T' := by
  have f4 : Fr (W2.alloc o) w4 (fun k => sv.ownBlock = some k) := Fr.grown gr (fun k hk => hk)
  have o4 := (f4.block _ (by rw [World.size_alloc]; omega) (fun hk => (g3 _ hk).2.1 rfl)).trans ((Below.heap_alloc W2 o _ hlt).trans o0)
  have hs4 : W2.heap.size + 1 ≤ w4.heap.size := by have := f4.size; rw [World.size_alloc] at this; exact this
  have hs5 : (w4.setCell ⟨bp, 0, none⟩ sv').heap.size = w4.heap.size := by simp [World.setCell]
  have hne : ∀ k, sv'.ownBlock = some k → k ≠ bp := fun k hk e => by
    subst e
    rcases hat with e | e
    · rw [e] at hk; exact (g3 _ hk).2.1 rfl
    · rw [e, World.size_alloc] at hk; have := Option.some.inj hk; omega
  have fs : Fr w4 (w4.setCell ⟨bp, 0, none⟩ sv') (fun k => k = bp) := Fr.setCell (S := fun k => k = bp) w4 ⟨bp, 0, none⟩ _ rfl
  have F2 : Fr W2 (w4.setCell ⟨bp, 0, none⟩ sv') T := (((Fr.alloc W2 o (fun _ => False)).mono (T := T) (fun _ _ h => h.elim)).trans f4 (fun k _ hk => (g3 k hk).1)).trans fs (fun k _ e => by subst e; exact hT)
  refine ⟨fun k => k = bp ∨ sv'.ownBlock = some k, F2, fun k hk => ?_, ⟨⟨sv', m_set1 o4 _, (Mo.snoc own).fr fs (fun k hk e => hne k hk e), fun k hk => ⟨Or.inr hk, hne k hk, ?_⟩⟩, Or.inl rfl, ?_⟩⟩
  · rcases hk with rfl | hk
    · exact .inl hT
    · rcases hat with e | e
      · rw [e] at hk; exact .inl (g3 k hk).1
      · have h1 := (own.lt k hk).2
        rw [e, World.size_alloc] at hk
        have h2 := Option.some.inj hk
        exact .inr ⟨by omega, by omega⟩
  · rcases hat with e | e
    · rw [e] at hk; exact (g3 k hk).2.2
    · rw [e, World.size_alloc] at hk
      have h2 := Option.some.inj hk
      have := hf.size
      exact .inr (by omega)
  · have fa : Fr w0 (W2.alloc o) (fun k => k = bp ∨ k = br ∨ w0.heap.size ≤ k) := hf.trans (Fr.alloc W2 o (fun _ => False)) (fun _ _ h => h.elim)
    exact (fa.trans f4 (fun k _ hk => .inr (g3 k hk).2.2)).trans fs (fun k _ e => .inl e)
/-- A list turned. -/
theorem turn_get (l : List Msg) (r q : Nat) (hr : r < l.length) (hq : q < l.length) : (l.drop r ++ l.take r)[q]'(by simp; omega) = l[(q + r) % l.length]'(Nat.mod_lt _ (by omega)) := by
  by_cases h : q < l.length - r
  · rw [List.getElem_append_left (by simp; omega), List.getElem_drop]
    congr 1
    rw [Nat.mod_eq_of_lt (by omega)]
    omega
  · rw [List.getElem_append_right (by simp; omega), List.getElem_take]
    congr 1
    have : (q + r) % l.length = q + r - l.length := by
      rw [Nat.mod_eq_sub_mod (by omega), Nat.mod_eq_of_lt (by omega)]
    rw [this]
    simp
    omega
theorem turn_perm (l : List Msg) (r : Nat) : (l.drop r ++ l.take r).Perm l := by
  refine List.perm_append_comm.trans ?_
  rw [List.take_append_drop]
theorem turn_take (l : List Msg) (r q : Nat) (hr : r < l.length) (hq : q < l.length) : (l.drop r ++ l.take r).take (q + 1) = (l.drop r ++ l.take r).take q ++ [l[(q + r) % l.length]'(Nat.mod_lt _ (by omega))] := by
  rw [List.take_succ_eq_append_getElem (by simp; omega), turn_get l r q hr hq]
end Go.Proofs.Ytfajkfngjfhkoaa
