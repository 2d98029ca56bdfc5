/- mut.thatCount: the requests that count, in their order, a list of its own. -/
import Derived.Test.YthnhmhjcpdomcaaMuComp3
import Derived.Maps.AppendAt
namespace Go.Proofs.Ythnhmhjcpdomcaa
open Go.RowKit Go.Sort
/-- Requests lie in memory from an address on. -/
def UsAt (w : World) (P : Nat → Prop) (ao : Option Addr) (L : List Mu) : Prop :=
  0 < L.length → ∃ b off, ao = some ⟨b, off, none⟩ ∧ P b ∧ ∀ j (h : j < L.length), UC w b (off + j * 4) L[j]
theorem UsAt.kept {w w' : World} {P Q S : Nat → Prop} {ao : Option Addr} {L : List Mu} (h : UsAt w P ao L) (f : Fr w w' S) (hs : ∀ k, k < w.heap.size → P k → ¬ S k ∧ Q k) : UsAt w' Q ao L := by
  intro hl
  obtain ⟨b, off, e, hb, hc⟩ := h hl
  have hlt := lt_cell (hc 0 hl).1
  have hn := (hs b hlt hb).1
  exact ⟨b, off, e, (hs b hlt hb).2, fun j hj => ⟨fr_cell f hn (hc j hj).1, fr_cell f hn (hc j hj).2.1, fr_cell f hn (hc j hj).2.2.1, fr_cell f hn (hc j hj).2.2.2⟩⟩
theorem UsAt.new {w w' : World} {P : Nat → Prop} {ao : Option Addr} {L : List Mu} (h : UsAt w P ao L) (hb : Below w.heap.size w w') : UsAt w' P ao L := h.kept (Fr.ofBelow hb (fun _ => False)) (fun _ _ hp => ⟨fun h => h, hp⟩)
theorem UsAt.flat {w : World} {P : Nat → Prop} {ad : Addr} {L : List Mu} (h : UsAt w P (some ad) L) : ∀ j u, (L.flatMap muCells)[j]? = some u → w.cell? (ad.add j) = some u := by
  intro j u hu
  have hj : j < (L.flatMap muCells).length := (List.getElem?_eq_some_iff.1 hu).1
  rw [mu_len] at hj
  obtain ⟨b, off, e, _, hc⟩ := h (by omega)
  cases e
  rw [Addr.add_lit]
  have hi : j / 4 < L.length := by omega
  rw [flatU_get L j hj] at hu
  obtain ⟨c0, c1, c2, c3⟩ := hc (j / 4) hi
  have hm : j % 4 = 0 ∨ j % 4 = 1 ∨ j % 4 = 2 ∨ j % 4 = 3 := by omega
  rcases hm with hm | hm | hm | hm <;> rw [hm] at hu <;> simp [muCells] at hu <;> subst hu
  · rw [show off + j = off + j / 4 * 4 by omega]; exact c0
  · rw [show off + j = off + j / 4 * 4 + 1 by omega]; exact c1
  · rw [show off + j = off + j / 4 * 4 + 2 by omega]; exact c2
  · rw [show off + j = off + j / 4 * 4 + 3 by omega]; exact c3
theorem infoMu : (Try.prog.info? 38).map (fun i => (i.zero, i.size, i.bytes)) = some (some (.agg #[.int .i64 0, .int .i64 0, .int .i64 0, .int .i64 0]), 4, 32) := by kernel_rfl
theorem nil_eqU (w : World) (n c : Nat) : (binOp .eql 35 (.slice none n c) (.slice none 0 0)).run Try.prog w = .ok (.bool true) w := by
  have h : (Op.equalIn 10000 35 (.slice none n c) (.slice none 0 0)).run Try.prog w = .ok true w := by
    unfold Op.equalIn
    simp [run_underlying Try.underlying35]
  simp only [binOp]
  simp [Op.equal, Op.maxDepth, h]
theorem nil_neU (w : World) (ad : Addr) (n c : Nat) : (binOp .eql 35 (.slice (some ad) n c) (.slice none 0 0)).run Try.prog w = .ok (.bool false) w := by
  have h : (Op.equalIn 10000 35 (.slice (some ad) n c) (.slice none 0 0)).run Try.prog w = .ok false w := by
    unfold Op.equalIn
    simp [run_underlying Try.underlying35]
  simp only [binOp]
  simp [Op.equal, Op.maxDepth, h]
theorem own_emptyU {w : World} {base : Nat} {t : TypeId} {size : Nat} (hb : base ≤ w.heap.size) : (w.alloc (.cells #[] t)).ownsRow base t size (.slice (some ⟨w.heap.size, 0, none⟩) 0 0) 0 [] := World.ownsRow_made w #[] 0 hb (by decide) (by simp)
theorem one_newU (w : World) (o : Obj) : Below w.heap.size w (w.alloc o) := (Below.refl _ _).alloc (Nat.le_refl _) _
theorem own_anyU {w : World} {base : Nat} {e : TypeId} {size : Nat} {v : Value} {n : Nat} {xs : List Value} (h : w.ownsRow base e size v n xs) : ∃ ao m c, v = .slice ao m c := by
  rcases h.2 with ⟨h1, _⟩ | ⟨g, cap, cur, h1, _⟩
  · exact ⟨_, _, _, h1⟩
  · exact ⟨_, _, _, h1⟩
set_option maxRecDepth 100000 in
theorem cloneU_any {w : World} {P : Nat → Prop} {ao : Option Addr} (L : List Mu) (cap : Nat) (h : UsAt w P ao L) (hl : L.length ≤ 1073741824) :
    Calls Try.prog 67 #[.slice ao L.length cap] w fun r w' => ∃ v, r = .returned v ∧ UO w' w.heap.size v L ∧ Below w.heap.size w w' := by
  obtain ⟨i0, hi, hz0, hz1, hz2⟩ := info_parts infoMu
  cases ao with
  | none =>
    have hL : L = [] := List.eq_nil_of_length_eq_zero (Nat.eq_zero_of_not_pos (fun hp => by obtain ⟨b, off, e, _⟩ := h hp; cases e))
    subst hL
    have hq := nil_eqU
    go_enter Try.func67, Try.ntmps67
    go_wp2
    go_ret
    exact ⟨_, rfl, World.ownsRow_nil _ _ _ _, Below.refl _ _⟩
  | some ad =>
    have HN : Hid (∀ j u, (L.flatMap muCells)[j]? = some u → (w.alloc (.cells #[] 38)).cell? (ad.add j) = some u) := UsAt.flat (h.new (one_newU _ _))
    have HO : Hid _ := own_emptyU (w := w) (base := w.heap.size) (t := 38) (size := 4) (Nat.le_refl _)
    have HL : Hid ((L.flatMap muCells).length = L.length * 4) := mu_len L
    have HOne : Hid _ := musOne L
    clear h
    have hq := nil_neU
    go_enter Try.func67, Try.ntmps67
    go_wp2_with (at_builtin; refine wpList_append_own_at _ rfl _ _ 35 rfl w.heap.size 38 i0 (.agg #[.int .i64 0, .int .i64 0, .int .i64 0, .int .i64 0]) 4 32 Try.underlying35 hi hz0 hz1 hz2 rfl (by decide) _ _ _ rfl HO.out ad L.length cap (L.flatMap muCells) rfl HL.out HN.out HOne.out (by unfold maxLen; omega) (by omega) (by simp) ?_)
    intro v' w1 hown hgrow _ _
    obtain ⟨bo, m, c, rfl⟩ := own_anyU hown
    have HOw : Hid _ := hown
    have hb : Below w.heap.size w w1 := (one_newU w _).trans ((Fr.grown (S := fun k => k = w.heap.size) hgrow (fun k hk => by cases hk; rfl)).below (by simp) (fun k hk => by omega))
    clear hown
    go_wp2
    go_ret
    exact ⟨_, rfl, HOw.out, hb⟩
theorem sortU_empty (w : World) (p : Option Addr) (cap : Nat) : Calls Try.prog 68 #[.slice p 0 cap, .func (.func 19) #[] #[]] w fun e w' => e = .returned (.tuple #[]) ∧ w' = w := AnyF.slices_SortFunc_none { layU with } p cap _ w
theorem sort_of {w : World} {base : Nat} {v : Value} {L : List Mu} (h : UO w base v L) (hl : L.length ≤ 1073741824) : Calls Try.prog 68 #[v, .func (.func 19) #[] #[]] w fun e w' => e = .returned (.tuple #[]) ∧ UO w' base v (sortU L) ∧ w.grownBy w' v.ownBlock := by
  by_cases h0 : L.length = 0
  · obtain rfl := List.eq_nil_of_length_eq_zero h0
    obtain ⟨ao, c, rfl⟩ : ∃ ao c, v = .slice ao 0 c := by
      rcases h.2 with ⟨h1, _⟩ | ⟨g, cap, cur, h1, _⟩
      · exact ⟨_, _, h1⟩
      · exact ⟨_, _, h1⟩
    refine (sortU_empty w ao c).mono ?_
    rintro e w' ⟨rfl, rfl⟩
    rw [sortU_nil]
    exact ⟨rfl, h, rfl, rfl, rfl, Nat.le_refl _, fun _ _ _ => rfl⟩
  · obtain ⟨g, cap, cur, rfl, _⟩ := own_blk h (by omega)
    exact sortFU_any h (by omega)
theorem thatcount_any {w : World} {P : Nat → Prop} {ao : Option Addr} (L : List Mu) (cap : Nat) (h : UsAt w P ao L) (hl : L.length ≤ 1073741824) :
    Calls Try.prog 45 #[.slice ao L.length cap] w fun r w' => ∃ v, r = .returned v ∧ UO w' w.heap.size v (thatC L) ∧ Below w.heap.size w w' := by
  have HU : Hid _ := h
  clear h
  go_enter Try.func45, Try.ntmps45
  go_wp2_with (first
    | (go_at_call 67; refine (cloneU_any L cap HU.out hl).mono ?_; rintro r w1 ⟨v, rfl, h1, hb1⟩; obtain ⟨o1, m1, c1, rfl⟩ := own_anyU h1; have H1 : Hid _ := h1; have HB1 : Hid _ := hb1; clear h1 hb1)
    | (go_at_call 68; refine (sort_of H1.out hl).mono ?_; rintro r w2 ⟨rfl, h2, hg2⟩; have H2 : Hid _ := h2; have HG2 : Hid _ := hg2; clear h2 hg2)
    | (go_at_call 69; refine (compact_any H2.out (by rw [sortU_len]; exact hl)).mono ?_; rintro r w3 ⟨v', rfl, h3, hf3⟩; obtain ⟨o3, m3, c3, rfl⟩ := own_anyU h3; have H3 : Hid _ := h3; have HF3 : Hid _ := hf3; clear h3 hf3))
  go_ret
  have hlt := fun k hk => (World.ownsRow.lt H1.out k hk).1
  have f2 : Fr w1 w2 (fun k => (Value.slice o1 m1 c1).ownBlock = some k) := Fr.grown HG2.out (fun k hk => hk)
  have f3 := f2.trans HF3.out (fun _ _ h => h)
  exact ⟨_, rfl, H3.out, HB1.out.trans (f3.below HB1.out.size (fun k hk => hlt k hk))⟩
end Go.Proofs.Ythnhmhjcpdomcaa
