/- Masters at their beginning: a master more. -/
import Derived.Test.YtiodepmioglfpaaVwW
import Derived.Test.YtiodepmioglfpaaVwNil
namespace Go.Proofs.Ytiodepmioglfpaa
open Go.RowKit Go.Maps
attribute [local go_sem] Oper.semAt_some
section
variable {P : Program} {ops : Array Oper} {Q : Exit → Act → World → Prop} {md : Region.Mode} {S : World → Prop} {st : List Nat}
theorem wpAnyL_three {i j l : Nat} {o p q : Oper} {fuel : Nat} {listed : Array Bool} {a : Act} {w : World} (hr : Region.ready md ops listed = [i, j, l]) (ho : ops[i]? = some o) (hp : ops[j]? = some p) (hq : ops[l]? = some q)
    (h : ∀ K' : Act → World → Prop, Shut (∀ a w, (heldB st (listed.setIfInBounds i true) = true → S w) → wpAnyL P md ops Q S st fuel (listed.setIfInBounds i true) a w → K' a w) → if Region.wanted o (yielded ops a.tmps) = true then Oper.wp P o a w K' Q else K' (a.put o.dst undef) w)
    (h' : ∀ K' : Act → World → Prop, Shut (∀ a w, (heldB st (listed.setIfInBounds j true) = true → S w) → wpAnyL P md ops Q S st fuel (listed.setIfInBounds j true) a w → K' a w) → if Region.wanted p (yielded ops a.tmps) = true then Oper.wp P p a w K' Q else K' (a.put p.dst undef) w)
    (h'' : ∀ K' : Act → World → Prop, Shut (∀ a w, (heldB st (listed.setIfInBounds l true) = true → S w) → wpAnyL P md ops Q S st fuel (listed.setIfInBounds l true) a w → K' a w) → if Region.wanted q (yielded ops a.tmps) = true then Oper.wp P q a w K' Q else K' (a.put q.dst undef) w) :
    wpAnyL P md ops Q S st (fuel + 1) listed a w :=
  ⟨fun h0 => (by rw [hr] at h0; cases h0), fun k hk => by
    rw [hr] at hk
    rcases List.mem_cons.1 hk with rfl | hk
    · exact wpOp_step ho (fun K' hK => h K' (fun a w hS hW => hK a w ⟨hS, hW⟩))
    · rcases List.mem_cons.1 hk with rfl | hk
      · exact wpOp_step hp (fun K' hK => h' K' (fun a w hS hW => hK a w ⟨hS, hW⟩))
      · obtain rfl : k = l := by simpa using hk
        exact wpOp_step hq (fun K' hK => h'' K' (fun a w hS hW => hK a w ⟨hS, hW⟩))⟩
theorem wpAnyL_true : ∀ (fuel : Nat) (listed : Array Bool) (a : Act) (w : World), wpAny P md ops Q fuel listed a w → wpAnyL P md ops Q (fun _ => True) st fuel listed a w
  | 0, _, _, _, h => h
  | fuel + 1, _, _, _, h => ⟨h.1, fun i hi => wpOp_mono (fun a' w' h' => ⟨fun _ => trivial, wpAnyL_true fuel _ a' w' h'⟩) (h.2 i hi)⟩
end
/-- While a master more is laid into the rows. -/
structure BgS (W0 W : World) (b : Nat) (lv0 hv0 vv0 nv lv hv vv : Value) (ma : Nat) (ps hs vs : List Value) : Prop where
  box : W.heap[b]? = some (.cells #[lv0, nv, .map (some ma), hv0, vv0] 70 (0, 0))
  l : RO W 51 lv ps
  h : RO W 3 hv hs
  v : RO W 3 vv vs
  fr : Fr W0 W (fun k => lv0.ownBlock = some k ∨ hv0.ownBlock = some k ∨ vv0.ownBlock = some k)
  low : W0.heap.size ≤ W.heap.size
  ol : ∀ k, lv0.ownBlock = some k → k < W0.heap.size
  oh : ∀ k, hv0.ownBlock = some k → k < W0.heap.size
  ov : ∀ k, vv0.ownBlock = some k → k < W0.heap.size
  ap : ∀ k, hv0.ownBlock = some k → vv0.ownBlock ≠ some k
  ll : ∀ k, lv.ownBlock = some k → lv0.ownBlock = some k ∨ W0.heap.size ≤ k
  lh : ∀ k, hv.ownBlock = some k → hv0.ownBlock = some k ∨ W0.heap.size ≤ k
  lw : ∀ k, vv.ownBlock = some k → vv0.ownBlock = some k ∨ W0.heap.size ≤ k
  lhv : ∀ k, hv.ownBlock = some k → vv.ownBlock ≠ some k
section
variable {W0 W W' : World} {b : Nat} {lv0 hv0 vv0 nv lv hv vv v' : Value} {ma : Nat} {ps hs vs xs : List Value}
theorem BgS.new (h : BgS W0 W b lv0 hv0 vv0 nv lv hv vv ma ps hs vs) (hb : Below W.heap.size W W') : BgS W0 W' b lv0 hv0 vv0 nv lv hv vv ma ps hs vs :=
  { h with
    box := (hb.block b (vlt_blk h.box)).trans h.box
    l := h.l.new hb
    h := h.h.new hb
    v := h.v.new hb
    fr := h.fr.trans (Fr.ofBelow hb _) (fun _ _ h => h)
    low := Nat.le_trans h.low hb.size }
theorem src_keep {g : Nat} {o : Obj} (hs : W.heap[g]? = some o) (hg : W0.heap.size ≤ g) {v0 : Value} (f : Fr W W' (fun k => v0.ownBlock = some k)) (hv : ∀ k, v0.ownBlock = some k → k < W0.heap.size) : W'.heap[g]? = some o := (f.block g (vlt_blk hs) (fun e => by have := hv g e; omega)).trans hs
/-- Tags part the rows from the box, and masters' rows from numbers'. -/
theorem BgS.box_l (h : BgS W0 W b lv0 hv0 vv0 nv lv hv vv ma ps hs vs) (t : TypeId) (ht : t ≠ 70) {v : Value} (hr : RO W t v xs) : v.ownBlock ≠ some b := fun e => by
  obtain ⟨_, c, f, hb⟩ := vrow_tag hr e
  rw [h.box] at hb
  injection hb with hb
  injection hb with _ h2
  exact ht h2.symm
theorem tag_apart {t u : TypeId} (htu : t ≠ u) {v x : Value} {ys : List Value} (h1 : RO W t v xs) (h2 : RO W u x ys) {k : Nat} (e1 : v.ownBlock = some k) : x.ownBlock ≠ some k := fun e2 => by
  obtain ⟨_, c, f, hb⟩ := vrow_tag h1 e1
  obtain ⟨_, c', f', hb'⟩ := vrow_tag h2 e2
  rw [hb] at hb'
  injection hb' with hb'
  injection hb' with _ h3
  exact htu h3
theorem BgS.appL (h : BgS W0 W b lv0 hv0 vv0 nv lv0 hv vv ma ps hs vs) (hr : RO W' 51 v' xs) (f : Fr W W' (fun k => lv0.ownBlock = some k)) (hl : ∀ k, v'.ownBlock = some k → lv0.ownBlock = some k ∨ W.heap.size ≤ k) : BgS W0 W' b lv0 hv0 vv0 nv v' hv vv ma xs hs vs := by
  have hb := h.box_l 51 (by decide) h.l
  refine { h with box := (f.block b (vlt_blk h.box) (fun e => hb e)).trans h.box, l := hr, h := h.h.kept f (fun k hk e => tag_apart (by decide) h.l h.h e hk), v := h.v.kept f (fun k hk e => tag_apart (by decide) h.l h.v e hk), fr := h.fr.trans f (fun _ _ h => .inl h), low := Nat.le_trans h.low f.size, ll := fun k hk => ?_ }
  rcases hl k hk with e | e
  · exact .inl e
  · exact .inr (Nat.le_trans h.low e)
theorem BgS.appH (h : BgS W0 W b lv0 hv0 vv0 nv lv hv0 vv ma ps hs vs) (hr : RO W' 3 v' xs) (f : Fr W W' (fun k => hv0.ownBlock = some k)) (hl : ∀ k, v'.ownBlock = some k → hv0.ownBlock = some k ∨ W.heap.size ≤ k) : BgS W0 W' b lv0 hv0 vv0 nv lv v' vv ma ps xs vs := by
  have hb := h.box_l 3 (by decide) h.h
  refine { h with box := (f.block b (vlt_blk h.box) (fun e => hb e)).trans h.box, l := h.l.kept f (fun k hk e => tag_apart (by decide) h.l h.h hk e), h := hr, v := h.v.kept f (fun k hk e => h.lhv k e hk), fr := h.fr.trans f (fun _ _ h => .inr (.inl h)), low := Nat.le_trans h.low f.size, lh := fun k hk => ?_, lhv := fun k hk e => ?_ }
  · rcases hl k hk with e | e
    · exact .inl e
    · exact .inr (Nat.le_trans h.low e)
  · rcases hl k hk with e1 | e1
    · exact h.lhv k e1 e
    · have := h.v.lt e
      omega
theorem BgS.appV (h : BgS W0 W b lv0 hv0 vv0 nv lv hv vv0 ma ps hs vs) (hr : RO W' 3 v' xs) (f : Fr W W' (fun k => vv0.ownBlock = some k)) (hl : ∀ k, v'.ownBlock = some k → vv0.ownBlock = some k ∨ W.heap.size ≤ k) : BgS W0 W' b lv0 hv0 vv0 nv lv hv v' ma ps hs xs := by
  have hb := h.box_l 3 (by decide) h.v
  refine { h with box := (f.block b (vlt_blk h.box) (fun e => hb e)).trans h.box, l := h.l.kept f (fun k hk e => tag_apart (by decide) h.l h.v hk e), h := h.h.kept f (fun k hk e => h.lhv k hk e), v := hr, fr := h.fr.trans f (fun _ _ h => .inr (.inr h)), low := Nat.le_trans h.low f.size, lw := fun k hk => ?_, lhv := fun k hk e => ?_ }
  · rcases hl k hk with e | e
    · exact .inl e
    · exact .inr (Nat.le_trans h.low e)
  · rcases hl k e with e1 | e1
    · exact h.lhv k hk e1
    · have := h.h.lt hk
      omega
end
/-- A master alone in a set of blocks. -/
def AS (w : World) (S : Nat → Prop) (p : Nat) (A : Nd) : Prop := NdAt w S p A ∧ Alone A
/-- The world of one master. -/
structure AW (w : World) (S : Nat → Prop) (b p : Nat) (A : Nd) (g c0 gh c1 ma : Nat) (vv : Value) : Prop where
  box : w.heap[b]? = some (.cells #[.slice (some ⟨g, 0, none⟩) 1 c0, .slice none 0 0, .map (some ma), .slice (some ⟨gh, 0, none⟩) 1 c1, vv] 70 (0, 0))
  l : RO w 51 (.slice (some ⟨g, 0, none⟩) 1 c0) [.pointer (some ⟨p, 0, none⟩)]
  h : ∃ x, RO w 3 (.slice (some ⟨gh, 0, none⟩) 1 c1) [.int .i64 x]
  nd : AS w S p A
  nb : ¬ S b
  ng : ¬ S g
  nh : ¬ S gh
theorem born_one : (Nd.born 0 1 0 0 0 0 (str []) []).counted.log = [] := rfl
set_option linter.unusedSimpArgs false in
set_option maxRecDepth 100000 in
set_option maxHeartbeats 8000000 in
theorem begun_one (w : World) : Calls Try.prog 37 #[.int .i64 1] w fun r w' => ∃ (S : Nat → Prop) (b p g c0 gh c1 ma : Nat) (vv : Value), r = .returned (.tuple #[.pointer (some ⟨b, 0, none⟩), .bool true]) ∧ AW w' S b p (Nd.born 0 1 0 0 0 0 (str []) []).counted g c0 gh c1 ma vv ∧ (∀ k, S k → w.heap.size ≤ k) ∧ w.heap.size ≤ b ∧ w.heap.size ≤ g ∧ w.heap.size ≤ gh ∧ Below w.heap.size w w' := by
  have hmm := @run_makeMap Try.prog
  go_enter Try.func37, Try.ntmps37
  go_upto_region 2 with (fail)
  generalize hW1 : World.alloc _ _ = W1
  have hb1 : Below w.heap.size w W1 := by rw [← hW1]; exact (vone_new _ _).trans ((vone_new _ _).mono (by simp))
  have hX1 : W1.heap[w.heap.size + 1]? = some (.cells #[.slice none 0 0, .slice none 0 0, .map (some w.heap.size), .slice none 0 0, .slice none 0 0] 70 (0, 0)) := by
    rw [← hW1]
    have := heap_alloc_new (w.alloc (.map #[] 0)) (.cells #[.slice none 0 0, .slice none 0 0, .map (some w.heap.size), .slice none 0 0, .slice none 0 0] 70)
    rwa [World.size_alloc] at this
  obtain ⟨ma, hma⟩ : ∃ m, w.heap.size = m := ⟨_, rfl⟩
  have HMA : Hid (w.heap.size = ma) := hma
  rw [hma] at hb1 hX1 ⊢
  obtain ⟨b, hbb⟩ : ∃ m, ma + 1 = m := ⟨_, rfl⟩
  rw [hbb] at hX1 ⊢
  have HBB : Hid (ma + 1 = b) := hbb
  have HB1 : Hid (Below ma w W1) := hb1
  have HX1 : Hid (W1.heap[b]? = some (.cells #[.slice none 0 0, .slice none 0 0, .map (some ma), .slice none 0 0, .slice none 0 0] 70 (0, 0))) := hX1
  clear hW1 hb1 hX1 hma hbb hmm
  go_wp2
  refine wp_loop_rounds 2 ?_
  rw [rounds_succ]
  have HNew : Hid (Calls Try.prog 25 #[.int .i64 0, .int .i64 1, .agg #[.int .i64 0, .int .i64 0, .int .i64 0, .int .i64 0, .string (str []), .slice none 0 0]] W1 fun r w' => ∃ p, r = .returned (.tuple #[.pointer (some ⟨p, 0, none⟩), .int .i64 0]) ∧ NdAt w' (fun k => W1.heap.size ≤ k ∧ k < w'.heap.size) p (Nd.born 0 1 0 0 0 0 (str []) []).counted ∧ Below W1.heap.size W1 w') := by
    refine (new_ok (L := []) (EnO.nil W1 0).toS no_born).mono ?_
    rintro r w' ⟨p, rfl, hN, hb⟩
    exact ⟨p, rfl, hN.mono (fun k hk h => ⟨h, hk⟩), hb⟩
  go_upto_region 8 with (go_at_call 25; refine Calls.mono HNew.out ?_; rintro r w2 ⟨p, rfl, hN2, hb2⟩; have HN2 : Hid (NdAt w2 (fun k => W1.heap.size ≤ k ∧ k < w2.heap.size) p (Nd.born 0 1 0 0 0 0 (str []) []).counted) := hN2; have HB2 : Hid (Below W1.heap.size W1 w2) := hb2; clear hN2 hb2)
  obtain ⟨Wd, hWd⟩ : ∃ Wd, w2.drew = Wd := ⟨_, rfl⟩
  have bd : Below w2.heap.size w2 Wd := by rw [← hWd]; exact Below.drew (Below.refl _ _)
  have hN3 := HN2.out.new bd
  have hX3 := (bd.block b (Nat.lt_of_lt_of_le (vlt_blk HX1.out) HB2.out.size)).trans ((HB2.out.block b (vlt_blk HX1.out)).trans HX1.out)
  have hsz : Wd.heap.size = w2.heap.size := by rw [← hWd]; rfl
  have h0 : BgS Wd Wd b (.slice none 0 0) (.slice none 0 0) (.slice none 0 0) (.slice none 0 0) (.slice none 0 0) (.slice none 0 0) (.slice none 0 0) ma [] [] [] :=
    ⟨hX3, RO.nil _ _, RO.nil _ _, RO.nil _ _, Fr.refl _ _, Nat.le_refl _, fun _ h => (by cases h), fun _ h => (by cases h), fun _ h => (by cases h), fun _ h => (by cases h), fun _ h => (by cases h), fun _ h => (by cases h), fun _ h => (by cases h), fun _ h => (by cases h)⟩
  have HG0 : Hid (BgS Wd Wd b (.slice none 0 0) (.slice none 0 0) (.slice none 0 0) (.slice none 0 0) (.slice none 0 0) (.slice none 0 0) (.slice none 0 0) ma [] [] []) := h0
  have HN3 : Hid (NdAt Wd (fun k => W1.heap.size ≤ k ∧ k < Wd.heap.size) p (Nd.born 0 1 0 0 0 0 (str []) []).counted) := by show NdAt _ _ _ _; rw [hsz]; exact hN3
  have HBd : Hid (Below ma w Wd) := HB1.out.trans ((HB2.out.mono (by have := HB1.out.size; have := HMA.out; omega)).trans (bd.mono (by have := HB1.out.size; have := HB2.out.size; have := HMA.out; omega)))
  have HXb : Hid (b < W1.heap.size) := vlt_blk HX1.out
  have HWW : Hid (W1.heap.size ≤ Wd.heap.size) := Nat.le_trans HB2.out.size bd.size
  have SOK : Hid (∀ W lv hv vv ps hs vs, BgS Wd W b (.slice none 0 0) (.slice none 0 0) (.slice none 0 0) (.slice none 0 0) lv hv vv ma ps hs vs → (fun w' : World => w'.cell? ⟨b, 0, none⟩ = some (.slice none 0 0) ∧ w'.cell? ⟨b, 3, none⟩ = some (.slice none 0 0) ∧ w'.cell? ⟨b, 4, none⟩ = some (.slice none 0 0)) W) := fun W lv hv vv ps hs vs h => by
    have := h.box
    refine ⟨?_, ?_, ?_⟩ <;> simp [World.cell?, this]
  have FIN : Hid (∀ W Wz lv hv vv, BgS Wd W b (.slice none 0 0) (.slice none 0 0) (.slice none 0 0) (.slice none 0 0) lv hv vv ma [.pointer (some ⟨p, 0, none⟩)] [.int .i64 0] [.int .i64 0] → ((W.setCell ⟨b, 0, none⟩ lv).setCell ⟨b, 3, none⟩ hv).setCell ⟨b, 4, none⟩ vv = Wz → ∃ (S : Nat → Prop) (g c0 gh c1 : Nat), AW Wz S b p (Nd.born 0 1 0 0 0 0 (str []) []).counted g c0 gh c1 ma vv ∧ (∀ k, S k → ma ≤ k) ∧ ma ≤ b ∧ ma ≤ g ∧ ma ≤ gh ∧ Below ma w Wz) := fun W Wz lv hv vv h hz => by
    have hN := HN3.out
    have hB := HBd.out
    have hma := HMA.out
    have hbb := HBB.out
    have hXb := HXb.out
    have hWW := HWW.out
    have fs : Fr W Wz (fun k => k = b) := by
      rw [← hz]
      exact (Fr.setCell (S := fun k => k = b) _ ⟨b, 0, none⟩ _ rfl).trans ((Fr.setCell (S := fun k => k = b) _ ⟨b, 3, none⟩ _ rfl).trans (Fr.setCell (S := fun k => k = b) _ ⟨b, 4, none⟩ _ rfl) (fun _ _ h => h)) (fun _ _ h => h)
    have hbW : Below Wd.heap.size Wd W := h.fr.below (Nat.le_refl _) (fun k hk => by rcases hk with e | e | e <;> cases e)
    obtain ⟨a0, c0, e0, _, g0⟩ := h.l.shape
    obtain ⟨g, rfl⟩ := g0 (by simp)
    obtain ⟨a1, c1, e1, _, g1⟩ := h.h.shape
    obtain ⟨gh, rfl⟩ := g1 (by simp)
    subst e0 e1
    have lg : Wd.heap.size ≤ g := (h.ll g rfl).resolve_left (fun e => by cases e)
    have lh : Wd.heap.size ≤ gh := (h.lh gh rfl).resolve_left (fun e => by cases e)
    have hl2 := h.l.kept fs (fun k hk e => h.box_l 51 (by decide) h.l (by rw [hk, e]))
    have hh2 := h.h.kept fs (fun k hk e => h.box_l 3 (by decide) h.h (by rw [hk, e]))
    have hn2 := (hN.new hbW).kept fs (fun k _ e hs => by omega)
    refine ⟨fun k => W1.heap.size ≤ k ∧ k < Wd.heap.size, g, c0, gh, c1, ⟨?_, hl2, ⟨0, hh2⟩, ⟨hn2, Alone.born no_born⟩, by omega, by omega, by omega⟩, fun k hk => by omega, by omega, by omega, by omega, ?_⟩
    · rw [← hz]
      exact vblk_set (i := 4) _ (vblk_set (i := 3) _ (vblk_set (i := 0) _ h.box))
    · have l1 : Below ma w W := hB.trans (hbW.mono (by omega))
      exact l1.trans (fs.below (by have := l1.size; omega) (fun k e => by omega))
  clear h0 hN3 hX3 hsz bd HN2 HB2 HX1 HB1 HNew HN3 HBd
  refine wp_calmV ?_
  refine wp_region_L [30] (fun _ => True) (by kernel_rfl) ?_
  rw [hWd]
  clear hWd
  have hT : (fun _ : World => True) Wd := trivial
  refine wpAnyL_take (i := 1) 31 (v := .pointer (some ⟨b, 0, none⟩)) rfl rfl (by kernel_rfl) (by kernel_rfl) (by kernel_rfl) (by kernel_rfl) (by kernel_rfl) (by kernel_rfl) (fun _ _ _ h => h) hT (by rfl) (by intro w' hSw; go_simp <;> with_reducible rfl) ?_
  simp only [Act.put, List.setIfInBounds_toArray, List.set_cons_zero, List.set_cons_succ]
  refine wpAnyL_take (i := 2) 32 (v := .pointer (some ⟨b, 0, none⟩)) rfl rfl (by kernel_rfl) (by kernel_rfl) (by kernel_rfl) (by kernel_rfl) (by kernel_rfl) (by kernel_rfl) (fun _ _ _ h => h) hT (by rfl) (by intro w' hSw; go_simp <;> with_reducible rfl) ?_
  simp only [Act.put, List.setIfInBounds_toArray, List.set_cons_zero, List.set_cons_succ]
  refine wpAnyL_true _ _ _ _ (wpAny_of_L (S := (fun w' : World => w'.cell? ⟨b, 0, none⟩ = some (.slice none 0 0) ∧ w'.cell? ⟨b, 3, none⟩ = some (.slice none 0 0) ∧ w'.cell? ⟨b, 4, none⟩ = some (.slice none 0 0))) (st := [24]) _ _ _ _ ?_)
  have hS := SOK.out _ _ _ _ _ _ _ HG0.out
  refine wpAnyL_take (i := 0) 30 (v := .pointer (some ⟨b, 0, none⟩)) rfl rfl (by kernel_rfl) (by kernel_rfl) (by kernel_rfl) (by kernel_rfl) (by kernel_rfl) (by kernel_rfl) (fun _ _ _ h => h) hS (by rfl) (by intro w' hSw; obtain ⟨y0, y1, y2⟩ := hSw; go_simp <;> with_reducible rfl) ?_
  simp only [Act.put, List.setIfInBounds_toArray, List.set_cons_zero, List.set_cons_succ]
  refine wpAnyL_take (i := 3) 33 (v := .pointer (some ⟨b, 0, none⟩)) rfl rfl (by kernel_rfl) (by kernel_rfl) (by kernel_rfl) (by kernel_rfl) (by kernel_rfl) (by kernel_rfl) (fun _ _ _ h => h) hS (by rfl) (by intro w' hSw; obtain ⟨y0, y1, y2⟩ := hSw; go_simp <;> with_reducible rfl) ?_
  simp only [Act.put, List.setIfInBounds_toArray, List.set_cons_zero, List.set_cons_succ]
  refine wpAnyL_take (i := 4) 34 (v := .pointer (some ⟨b, 0, none⟩)) rfl rfl (by kernel_rfl) (by kernel_rfl) (by kernel_rfl) (by kernel_rfl) (by kernel_rfl) (by kernel_rfl) (fun _ _ _ h => h) hS (by rfl) (by intro w' hSw; obtain ⟨y0, y1, y2⟩ := hSw; go_simp <;> with_reducible rfl) ?_
  simp only [Act.put, List.setIfInBounds_toArray, List.set_cons_zero, List.set_cons_succ]
  refine wpAnyL_take (i := 5) 35 (v := .pointer (some ⟨b, 0, none⟩)) rfl rfl (by kernel_rfl) (by kernel_rfl) (by kernel_rfl) (by kernel_rfl) (by kernel_rfl) (by kernel_rfl) (fun _ _ _ h => h) hS (by rfl) (by intro w' hSw; obtain ⟨y0, y1, y2⟩ := hSw; go_simp <;> with_reducible rfl) ?_
  simp only [Act.put, List.setIfInBounds_toArray, List.set_cons_zero, List.set_cons_succ]
  refine wpAnyL_take (i := 6) 36 (v := .slice none 0 0) rfl rfl (by kernel_rfl) (by kernel_rfl) (by kernel_rfl) (by kernel_rfl) (by kernel_rfl) (by kernel_rfl) (fun _ _ _ h => h) hS (by rfl) (by intro w' hSw; obtain ⟨y0, y1, y2⟩ := hSw; go_simp <;> with_reducible rfl) ?_
  simp only [Act.put, List.setIfInBounds_toArray, List.set_cons_zero, List.set_cons_succ]
  refine wpAnyL_take (i := 7) 37 (v := .pointer (some ⟨p, 0, none⟩)) rfl rfl (by kernel_rfl) (by kernel_rfl) (by kernel_rfl) (by kernel_rfl) (by kernel_rfl) (by kernel_rfl) (fun _ _ _ h => h) hS (by rfl) (by intro w' hSw; obtain ⟨y0, y1, y2⟩ := hSw; go_simp <;> with_reducible rfl) ?_
  simp only [Act.put, List.setIfInBounds_toArray, List.set_cons_zero, List.set_cons_succ]
  refine wpAnyL_take (i := 10) 40 (v := .pointer (some ⟨b, 0, none⟩)) rfl rfl (by kernel_rfl) (by kernel_rfl) (by kernel_rfl) (by kernel_rfl) (by kernel_rfl) (by kernel_rfl) (fun _ _ _ h => h) hS (by rfl) (by intro w' hSw; obtain ⟨y0, y1, y2⟩ := hSw; go_simp <;> with_reducible rfl) ?_
  simp only [Act.put, List.setIfInBounds_toArray, List.set_cons_zero, List.set_cons_succ]
  refine wpAnyL_take (i := 11) 41 (v := .pointer (some ⟨b, 0, none⟩)) rfl rfl (by kernel_rfl) (by kernel_rfl) (by kernel_rfl) (by kernel_rfl) (by kernel_rfl) (by kernel_rfl) (fun _ _ _ h => h) hS (by rfl) (by intro w' hSw; obtain ⟨y0, y1, y2⟩ := hSw; go_simp <;> with_reducible rfl) ?_
  simp only [Act.put, List.setIfInBounds_toArray, List.set_cons_zero, List.set_cons_succ]
  refine wpAnyL_take (i := 12) 42 (v := .pointer (some ⟨b, 3, none⟩)) rfl rfl (by kernel_rfl) (by kernel_rfl) (by kernel_rfl) (by kernel_rfl) (by kernel_rfl) (by kernel_rfl) (fun _ _ _ h => h) hS (by rfl) (by intro w' hSw; obtain ⟨y0, y1, y2⟩ := hSw; go_simp <;> with_reducible rfl) ?_
  simp only [Act.put, List.setIfInBounds_toArray, List.set_cons_zero, List.set_cons_succ]
  refine wpAnyL_take (i := 13) 43 (v := .slice none 0 0) rfl rfl (by kernel_rfl) (by kernel_rfl) (by kernel_rfl) (by kernel_rfl) (by kernel_rfl) (by kernel_rfl) (fun _ _ _ h => h) hS (by rfl) (by intro w' hSw; obtain ⟨y0, y1, y2⟩ := hSw; go_simp <;> with_reducible rfl) ?_
  simp only [Act.put, List.setIfInBounds_toArray, List.set_cons_zero, List.set_cons_succ]
  refine wpAnyL_take (i := 16) 46 (v := .pointer (some ⟨b, 0, none⟩)) rfl rfl (by kernel_rfl) (by kernel_rfl) (by kernel_rfl) (by kernel_rfl) (by kernel_rfl) (by kernel_rfl) (fun _ _ _ h => h) hS (by rfl) (by intro w' hSw; obtain ⟨y0, y1, y2⟩ := hSw; go_simp <;> with_reducible rfl) ?_
  simp only [Act.put, List.setIfInBounds_toArray, List.set_cons_zero, List.set_cons_succ]
  refine wpAnyL_take (i := 17) 47 (v := .pointer (some ⟨b, 0, none⟩)) rfl rfl (by kernel_rfl) (by kernel_rfl) (by kernel_rfl) (by kernel_rfl) (by kernel_rfl) (by kernel_rfl) (fun _ _ _ h => h) hS (by rfl) (by intro w' hSw; obtain ⟨y0, y1, y2⟩ := hSw; go_simp <;> with_reducible rfl) ?_
  simp only [Act.put, List.setIfInBounds_toArray, List.set_cons_zero, List.set_cons_succ]
  refine wpAnyL_take (i := 18) 48 (v := .pointer (some ⟨b, 4, none⟩)) rfl rfl (by kernel_rfl) (by kernel_rfl) (by kernel_rfl) (by kernel_rfl) (by kernel_rfl) (by kernel_rfl) (fun _ _ _ h => h) hS (by rfl) (by intro w' hSw; obtain ⟨y0, y1, y2⟩ := hSw; go_simp <;> with_reducible rfl) ?_
  simp only [Act.put, List.setIfInBounds_toArray, List.set_cons_zero, List.set_cons_succ]
  refine wpAnyL_take (i := 19) 49 (v := .slice none 0 0) rfl rfl (by kernel_rfl) (by kernel_rfl) (by kernel_rfl) (by kernel_rfl) (by kernel_rfl) (by kernel_rfl) (fun _ _ _ h => h) hS (by rfl) (by intro w' hSw; obtain ⟨y0, y1, y2⟩ := hSw; go_simp <;> with_reducible rfl) ?_
  simp only [Act.put, List.setIfInBounds_toArray, List.set_cons_zero, List.set_cons_succ]
  refine wpAnyL_three (i := 8) (j := 14) (l := 20) (by kernel_rfl) rfl rfl rfl (fun Ka hKa => ?_) (fun Ka hKa => ?_) (fun Ka hKa => ?_)
  · go_simp
    obtain ⟨w1, hw1⟩ : ∃ W, Wd.alloc (.cells #[.pointer (some ⟨p, 0, none⟩)] 51) = W := ⟨_, rfl⟩
    have b1 : Below Wd.heap.size Wd w1 := by rw [← hw1]; exact vone_new _ _
    have S1 : Hid (w1.heap[Wd.heap.size]? = some (.cells #[.pointer (some ⟨p, 0, none⟩)] 51 (0, 0))) := by show _ = _; rw [← hw1]; exact heap_alloc_new _ _
    have L1 : Hid (Wd.heap.size ≤ Wd.heap.size) := HG0.out.low
    have Gw1 : Hid (BgS Wd w1 b (.slice none 0 0) (.slice none 0 0) (.slice none 0 0) (.slice none 0 0) (.slice none 0 0) (.slice none 0 0) (.slice none 0 0) ma [] [] []) := HG0.out.new b1
    rw [hw1]
    refine hKa.out _ _ (fun _ => SOK.out _ _ _ _ _ _ _ Gw1.out) ?_
    clear hKa Ka
    try simp only [Act.put, List.setIfInBounds_toArray, List.set_cons_zero, List.set_cons_succ]
    refine wpAnyL_three (i := 9) (j := 14) (l := 20) (by kernel_rfl) rfl rfl rfl (fun Ka hKa => ?_) (fun Ka hKa => ?_) (fun Ka hKa => ?_)
    · obtain ⟨v2, w2, hr2, ho2, hf2, hl2⟩ := app_ptr Gw1.out.l S1.out rfl (by decide) 67
      have Gw2 : Hid (BgS Wd w2 b (.slice none 0 0) (.slice none 0 0) (.slice none 0 0) (.slice none 0 0) v2 (.slice none 0 0) (.slice none 0 0) ma [.pointer (some ⟨p, 0, none⟩)] [] []) := Gw1.out.appL ho2 hf2 hl2
      obtain ⟨a2, c2, e2, _⟩ := ho2.shape
      rw [show ([] ++ [.pointer (some ⟨p, 0, none⟩)] : List Value).length = 1 from rfl] at e2
      subst e2
      refine stp_run rfl rfl rfl rfl hr2 ?_
      have Gw2 : Hid (BgS Wd w2 b (.slice none 0 0) (.slice none 0 0) (.slice none 0 0) (.slice none 0 0) (.slice a2 1 c2) (.slice none 0 0) (.slice none 0 0) ma [.pointer (some ⟨p, 0, none⟩)] [] []) := Gw2.out
      refine hKa.out _ _ (fun _ => SOK.out _ _ _ _ _ _ _ Gw2.out) ?_
      clear hKa Ka
      try simp only [Act.put, List.setIfInBounds_toArray, List.set_cons_zero, List.set_cons_succ]
      refine wpAnyL_two (i := 14) (j := 20) (by kernel_rfl) rfl rfl (fun Ka hKa => ?_) (fun Ka hKa => ?_)
      · go_simp
        obtain ⟨w3, hw3⟩ : ∃ W, w2.alloc (.cells #[.int .i64 0] 3) = W := ⟨_, rfl⟩
        have b3 : Below w2.heap.size w2 w3 := by rw [← hw3]; exact vone_new _ _
        have S3 : Hid (w3.heap[w2.heap.size]? = some (.cells #[.int .i64 0] 3 (0, 0))) := by show _ = _; rw [← hw3]; exact heap_alloc_new _ _
        have L3 : Hid (Wd.heap.size ≤ w2.heap.size) := Gw2.out.low
        have Gw3 : Hid (BgS Wd w3 b (.slice none 0 0) (.slice none 0 0) (.slice none 0 0) (.slice none 0 0) (.slice a2 1 c2) (.slice none 0 0) (.slice none 0 0) ma [.pointer (some ⟨p, 0, none⟩)] [] []) := Gw2.out.new b3
        rw [hw3]
        refine hKa.out _ _ (fun _ => SOK.out _ _ _ _ _ _ _ Gw3.out) ?_
        clear hKa Ka
        try simp only [Act.put, List.setIfInBounds_toArray, List.set_cons_zero, List.set_cons_succ]
        refine wpAnyL_two (i := 15) (j := 20) (by kernel_rfl) rfl rfl (fun Ka hKa => ?_) (fun Ka hKa => ?_)
        · obtain ⟨v4, w4, hr4, ho4, hf4, hl4⟩ := app_int Gw3.out.h S3.out rfl (by decide) 26
          have Gw4 : Hid (BgS Wd w4 b (.slice none 0 0) (.slice none 0 0) (.slice none 0 0) (.slice none 0 0) (.slice a2 1 c2) v4 (.slice none 0 0) ma [.pointer (some ⟨p, 0, none⟩)] [.int .i64 0] []) := Gw3.out.appH ho4 hf4 hl4
          obtain ⟨a4, c4, e4, _⟩ := ho4.shape
          rw [show ([] ++ [.int .i64 0] : List Value).length = 1 from rfl] at e4
          subst e4
          refine stp_run rfl rfl rfl rfl hr4 ?_
          have Gw4 : Hid (BgS Wd w4 b (.slice none 0 0) (.slice none 0 0) (.slice none 0 0) (.slice none 0 0) (.slice a2 1 c2) (.slice a4 1 c4) (.slice none 0 0) ma [.pointer (some ⟨p, 0, none⟩)] [.int .i64 0] []) := Gw4.out
          refine hKa.out _ _ (fun _ => SOK.out _ _ _ _ _ _ _ Gw4.out) ?_
          clear hKa Ka
          try simp only [Act.put, List.setIfInBounds_toArray, List.set_cons_zero, List.set_cons_succ]
          refine wpAnyL_one (i := 20) (by kernel_rfl) rfl (fun Ka hKa => ?_)
          go_simp
          obtain ⟨w5, hw5⟩ : ∃ W, w4.alloc (.cells #[.int .i64 0] 3) = W := ⟨_, rfl⟩
          have b5 : Below w4.heap.size w4 w5 := by rw [← hw5]; exact vone_new _ _
          have S5 : Hid (w5.heap[w4.heap.size]? = some (.cells #[.int .i64 0] 3 (0, 0))) := by show _ = _; rw [← hw5]; exact heap_alloc_new _ _
          have L5 : Hid (Wd.heap.size ≤ w4.heap.size) := Gw4.out.low
          have Gw5 : Hid (BgS Wd w5 b (.slice none 0 0) (.slice none 0 0) (.slice none 0 0) (.slice none 0 0) (.slice a2 1 c2) (.slice a4 1 c4) (.slice none 0 0) ma [.pointer (some ⟨p, 0, none⟩)] [.int .i64 0] []) := Gw4.out.new b5
          rw [hw5]
          refine hKa.out _ _ (fun _ => SOK.out _ _ _ _ _ _ _ Gw5.out) ?_
          clear hKa Ka
          try simp only [Act.put, List.setIfInBounds_toArray, List.set_cons_zero, List.set_cons_succ]
          refine wpAnyL_one (i := 21) (by kernel_rfl) rfl (fun Ka hKa => ?_)
          obtain ⟨v6, w6, hr6, ho6, hf6, hl6⟩ := app_int Gw5.out.v S5.out rfl (by decide) 26
          have Gw6 : Hid (BgS Wd w6 b (.slice none 0 0) (.slice none 0 0) (.slice none 0 0) (.slice none 0 0) (.slice a2 1 c2) (.slice a4 1 c4) v6 ma [.pointer (some ⟨p, 0, none⟩)] [.int .i64 0] [.int .i64 0]) := Gw5.out.appV ho6 hf6 hl6
          obtain ⟨a6, c6, e6, _⟩ := ho6.shape
          rw [show ([] ++ [.int .i64 0] : List Value).length = 1 from rfl] at e6
          subst e6
          refine stp_run rfl rfl rfl rfl hr6 ?_
          have Gw6 : Hid (BgS Wd w6 b (.slice none 0 0) (.slice none 0 0) (.slice none 0 0) (.slice none 0 0) (.slice a2 1 c2) (.slice a4 1 c4) (.slice a6 1 c6) ma [.pointer (some ⟨p, 0, none⟩)] [.int .i64 0] [.int .i64 0]) := Gw6.out
          refine hKa.out _ _ (fun _ => SOK.out _ _ _ _ _ _ _ Gw6.out) ?_
          clear hKa Ka
          try simp only [Act.put, List.setIfInBounds_toArray, List.set_cons_zero, List.set_cons_succ]
          have hbox := Gw6.out.box
          have q0 : w6.cell? ⟨b, 0, none⟩ = some (.slice none 0 0) := by simp [World.cell?, hbox]
          have z0 : w6.frozen? ⟨b, 0, none⟩ = false := hfree hbox 0
          refine wpAnyL_one (i := 22) (by kernel_rfl) rfl (fun Ka hKa => ?_)
          go_simp
          refine hKa.out _ _ (fun _ => SOK.out _ _ _ _ _ _ _ Gw6.out) ?_
          clear hKa Ka
          try simp only [Act.put, List.setIfInBounds_toArray, List.set_cons_zero, List.set_cons_succ]
          refine wpAnyL_one (i := 23) (by kernel_rfl) rfl (fun Ka hKa => ?_)
          go_simp
          refine hKa.out _ _ (fun _ => SOK.out _ _ _ _ _ _ _ Gw6.out) ?_
          clear hKa Ka
          try simp only [Act.put, List.setIfInBounds_toArray, List.set_cons_zero, List.set_cons_succ]
          refine wpAnyL_one (i := 24) (by kernel_rfl) rfl (fun Ka hKa => ?_)
          go_simp
          refine hKa.out _ _ (fun h => absurd h (Bool.eq_false_iff.1 (by kernel_rfl))) ?_
          clear hKa Ka
          try simp only [Act.put, List.setIfInBounds_toArray, List.set_cons_zero, List.set_cons_succ]
          have hbox := vblk_set (i := 0) (.slice a2 1 c2) hbox
          have q3 : ((w6).setCell ⟨b, 0, none⟩ (.slice a2 1 c2)).cell? ⟨b, 3, none⟩ = some (.slice none 0 0) := by simp [World.cell?, hbox]
          have z3 : ((w6).setCell ⟨b, 0, none⟩ (.slice a2 1 c2)).frozen? ⟨b, 3, none⟩ = false := hfree hbox 3
          refine wpAnyL_one (i := 25) (by kernel_rfl) rfl (fun Ka hKa => ?_)
          go_simp
          refine hKa.out _ _ (fun h => absurd h (Bool.eq_false_iff.1 (by kernel_rfl))) ?_
          clear hKa Ka
          try simp only [Act.put, List.setIfInBounds_toArray, List.set_cons_zero, List.set_cons_succ]
          refine wpAnyL_one (i := 26) (by kernel_rfl) rfl (fun Ka hKa => ?_)
          go_simp
          refine hKa.out _ _ (fun h => absurd h (Bool.eq_false_iff.1 (by kernel_rfl))) ?_
          clear hKa Ka
          try simp only [Act.put, List.setIfInBounds_toArray, List.set_cons_zero, List.set_cons_succ]
          refine wpAnyL_one (i := 27) (by kernel_rfl) rfl (fun Ka hKa => ?_)
          go_simp
          refine hKa.out _ _ (fun h => absurd h (Bool.eq_false_iff.1 (by kernel_rfl))) ?_
          clear hKa Ka
          try simp only [Act.put, List.setIfInBounds_toArray, List.set_cons_zero, List.set_cons_succ]
          have hbox := vblk_set (i := 3) (.slice a4 1 c4) hbox
          have q4 : (((w6).setCell ⟨b, 0, none⟩ (.slice a2 1 c2)).setCell ⟨b, 3, none⟩ (.slice a4 1 c4)).cell? ⟨b, 4, none⟩ = some (.slice none 0 0) := by simp [World.cell?, hbox]
          have z4 : (((w6).setCell ⟨b, 0, none⟩ (.slice a2 1 c2)).setCell ⟨b, 3, none⟩ (.slice a4 1 c4)).frozen? ⟨b, 4, none⟩ = false := hfree hbox 4
          refine wpAnyL_one (i := 28) (by kernel_rfl) rfl (fun Ka hKa => ?_)
          go_simp
          refine hKa.out _ _ (fun h => absurd h (Bool.eq_false_iff.1 (by kernel_rfl))) ?_
          clear hKa Ka
          try simp only [Act.put, List.setIfInBounds_toArray, List.set_cons_zero, List.set_cons_succ]
          refine wpAnyL_one (i := 29) (by kernel_rfl) rfl (fun Ka hKa => ?_)
          go_simp
          refine hKa.out _ _ (fun h => absurd h (Bool.eq_false_iff.1 (by kernel_rfl))) ?_
          clear hKa Ka
          try simp only [Act.put, List.setIfInBounds_toArray, List.set_cons_zero, List.set_cons_succ]
          refine wpAnyL_one (i := 30) (by kernel_rfl) rfl (fun Ka hKa => ?_)
          go_simp
          refine hKa.out _ _ (fun h => absurd h (Bool.eq_false_iff.1 (by kernel_rfl))) ?_
          clear hKa Ka
          try simp only [Act.put, List.setIfInBounds_toArray, List.set_cons_zero, List.set_cons_succ]
          refine wpAnyL_done (by kernel_rfl) ?_ _
          have hF := FIN.out _ _ _ _ _ Gw6.out rfl
          generalize hWz : World.setCell _ _ _ = Wz
          first | rw [hWz] at hF | (simp only [List.nil_append, List.length_cons, List.length_nil] at hF; rw [hWz] at hF)
          have HF : Hid _ := hF
          clear hF hWz hbox q0 z0 q3 z3 q4 z4
          go_wp2
          rw [rounds_succ]
          go_wp2
          go_ret2
          obtain ⟨S, g, c0, gh, c1, h1, h2, h3, h4, h5, h6⟩ := HF.out
          rw [HMA.out]
          exact ⟨S, b, p, g, c0, gh, c1, ma, _, rfl, h1, h2, h3, h4, h5, h6⟩
        · go_simp
          obtain ⟨w7, hw7⟩ : ∃ W, w3.alloc (.cells #[.int .i64 0] 3) = W := ⟨_, rfl⟩
          have b7 : Below w3.heap.size w3 w7 := by rw [← hw7]; exact vone_new _ _
          have S7 : Hid (w7.heap[w3.heap.size]? = some (.cells #[.int .i64 0] 3 (0, 0))) := by show _ = _; rw [← hw7]; exact heap_alloc_new _ _
          have L7 : Hid (Wd.heap.size ≤ w3.heap.size) := Gw3.out.low
          have Gw7 : Hid (BgS Wd w7 b (.slice none 0 0) (.slice none 0 0) (.slice none 0 0) (.slice none 0 0) (.slice a2 1 c2) (.slice none 0 0) (.slice none 0 0) ma [.pointer (some ⟨p, 0, none⟩)] [] []) := Gw3.out.new b7
          have S7B : Hid (w7.heap[w2.heap.size]? = some (.cells #[.int .i64 0] 3 (0, 0))) := (b7.block _ (vlt_blk S3.out)).trans S3.out
          rw [hw7]
          refine hKa.out _ _ (fun _ => SOK.out _ _ _ _ _ _ _ Gw7.out) ?_
          clear hKa Ka
          try simp only [Act.put, List.setIfInBounds_toArray, List.set_cons_zero, List.set_cons_succ]
          refine wpAnyL_one (i := 15) (by kernel_rfl) rfl (fun Ka hKa => ?_)
          obtain ⟨v8, w8, hr8, ho8, hf8, hl8⟩ := app_int Gw7.out.h S7B.out rfl (by decide) 26
          have Gw8 : Hid (BgS Wd w8 b (.slice none 0 0) (.slice none 0 0) (.slice none 0 0) (.slice none 0 0) (.slice a2 1 c2) v8 (.slice none 0 0) ma [.pointer (some ⟨p, 0, none⟩)] [.int .i64 0] []) := Gw7.out.appH ho8 hf8 hl8
          have S8C : Hid (w8.heap[w3.heap.size]? = some (.cells #[.int .i64 0] 3 (0, 0))) := src_keep (W0 := Wd) S7.out L7.out hf8 (fun _ h => by cases h)
          obtain ⟨a8, c8, e8, _⟩ := ho8.shape
          rw [show ([] ++ [.int .i64 0] : List Value).length = 1 from rfl] at e8
          subst e8
          refine stp_run rfl rfl rfl rfl hr8 ?_
          have Gw8 : Hid (BgS Wd w8 b (.slice none 0 0) (.slice none 0 0) (.slice none 0 0) (.slice none 0 0) (.slice a2 1 c2) (.slice a8 1 c8) (.slice none 0 0) ma [.pointer (some ⟨p, 0, none⟩)] [.int .i64 0] []) := Gw8.out
          refine hKa.out _ _ (fun _ => SOK.out _ _ _ _ _ _ _ Gw8.out) ?_
          clear hKa Ka
          try simp only [Act.put, List.setIfInBounds_toArray, List.set_cons_zero, List.set_cons_succ]
          refine wpAnyL_one (i := 21) (by kernel_rfl) rfl (fun Ka hKa => ?_)
          obtain ⟨v9, w9, hr9, ho9, hf9, hl9⟩ := app_int Gw8.out.v S8C.out rfl (by decide) 26
          have Gw9 : Hid (BgS Wd w9 b (.slice none 0 0) (.slice none 0 0) (.slice none 0 0) (.slice none 0 0) (.slice a2 1 c2) (.slice a8 1 c8) v9 ma [.pointer (some ⟨p, 0, none⟩)] [.int .i64 0] [.int .i64 0]) := Gw8.out.appV ho9 hf9 hl9
          obtain ⟨a9, c9, e9, _⟩ := ho9.shape
          rw [show ([] ++ [.int .i64 0] : List Value).length = 1 from rfl] at e9
          subst e9
          refine stp_run rfl rfl rfl rfl hr9 ?_
          have Gw9 : Hid (BgS Wd w9 b (.slice none 0 0) (.slice none 0 0) (.slice none 0 0) (.slice none 0 0) (.slice a2 1 c2) (.slice a8 1 c8) (.slice a9 1 c9) ma [.pointer (some ⟨p, 0, none⟩)] [.int .i64 0] [.int .i64 0]) := Gw9.out
          refine hKa.out _ _ (fun _ => SOK.out _ _ _ _ _ _ _ Gw9.out) ?_
          clear hKa Ka
          try simp only [Act.put, List.setIfInBounds_toArray, List.set_cons_zero, List.set_cons_succ]
          have hbox := Gw9.out.box
          have q0 : w9.cell? ⟨b, 0, none⟩ = some (.slice none 0 0) := by simp [World.cell?, hbox]
          have z0 : w9.frozen? ⟨b, 0, none⟩ = false := hfree hbox 0
          refine wpAnyL_one (i := 22) (by kernel_rfl) rfl (fun Ka hKa => ?_)
          go_simp
          refine hKa.out _ _ (fun _ => SOK.out _ _ _ _ _ _ _ Gw9.out) ?_
          clear hKa Ka
          try simp only [Act.put, List.setIfInBounds_toArray, List.set_cons_zero, List.set_cons_succ]
          refine wpAnyL_one (i := 23) (by kernel_rfl) rfl (fun Ka hKa => ?_)
          go_simp
          refine hKa.out _ _ (fun _ => SOK.out _ _ _ _ _ _ _ Gw9.out) ?_
          clear hKa Ka
          try simp only [Act.put, List.setIfInBounds_toArray, List.set_cons_zero, List.set_cons_succ]
          refine wpAnyL_one (i := 24) (by kernel_rfl) rfl (fun Ka hKa => ?_)
          go_simp
          refine hKa.out _ _ (fun h => absurd h (Bool.eq_false_iff.1 (by kernel_rfl))) ?_
          clear hKa Ka
          try simp only [Act.put, List.setIfInBounds_toArray, List.set_cons_zero, List.set_cons_succ]
          have hbox := vblk_set (i := 0) (.slice a2 1 c2) hbox
          have q3 : ((w9).setCell ⟨b, 0, none⟩ (.slice a2 1 c2)).cell? ⟨b, 3, none⟩ = some (.slice none 0 0) := by simp [World.cell?, hbox]
          have z3 : ((w9).setCell ⟨b, 0, none⟩ (.slice a2 1 c2)).frozen? ⟨b, 3, none⟩ = false := hfree hbox 3
          refine wpAnyL_one (i := 25) (by kernel_rfl) rfl (fun Ka hKa => ?_)
          go_simp
          refine hKa.out _ _ (fun h => absurd h (Bool.eq_false_iff.1 (by kernel_rfl))) ?_
          clear hKa Ka
          try simp only [Act.put, List.setIfInBounds_toArray, List.set_cons_zero, List.set_cons_succ]
          refine wpAnyL_one (i := 26) (by kernel_rfl) rfl (fun Ka hKa => ?_)
          go_simp
          refine hKa.out _ _ (fun h => absurd h (Bool.eq_false_iff.1 (by kernel_rfl))) ?_
          clear hKa Ka
          try simp only [Act.put, List.setIfInBounds_toArray, List.set_cons_zero, List.set_cons_succ]
          refine wpAnyL_one (i := 27) (by kernel_rfl) rfl (fun Ka hKa => ?_)
          go_simp
          refine hKa.out _ _ (fun h => absurd h (Bool.eq_false_iff.1 (by kernel_rfl))) ?_
          clear hKa Ka
          try simp only [Act.put, List.setIfInBounds_toArray, List.set_cons_zero, List.set_cons_succ]
          have hbox := vblk_set (i := 3) (.slice a8 1 c8) hbox
          have q4 : (((w9).setCell ⟨b, 0, none⟩ (.slice a2 1 c2)).setCell ⟨b, 3, none⟩ (.slice a8 1 c8)).cell? ⟨b, 4, none⟩ = some (.slice none 0 0) := by simp [World.cell?, hbox]
          have z4 : (((w9).setCell ⟨b, 0, none⟩ (.slice a2 1 c2)).setCell ⟨b, 3, none⟩ (.slice a8 1 c8)).frozen? ⟨b, 4, none⟩ = false := hfree hbox 4
          refine wpAnyL_one (i := 28) (by kernel_rfl) rfl (fun Ka hKa => ?_)
          go_simp
          refine hKa.out _ _ (fun h => absurd h (Bool.eq_false_iff.1 (by kernel_rfl))) ?_
          clear hKa Ka
          try simp only [Act.put, List.setIfInBounds_toArray, List.set_cons_zero, List.set_cons_succ]
          refine wpAnyL_one (i := 29) (by kernel_rfl) rfl (fun Ka hKa => ?_)
          go_simp
          refine hKa.out _ _ (fun h => absurd h (Bool.eq_false_iff.1 (by kernel_rfl))) ?_
          clear hKa Ka
          try simp only [Act.put, List.setIfInBounds_toArray, List.set_cons_zero, List.set_cons_succ]
          refine wpAnyL_one (i := 30) (by kernel_rfl) rfl (fun Ka hKa => ?_)
          go_simp
          refine hKa.out _ _ (fun h => absurd h (Bool.eq_false_iff.1 (by kernel_rfl))) ?_
          clear hKa Ka
          try simp only [Act.put, List.setIfInBounds_toArray, List.set_cons_zero, List.set_cons_succ]
          refine wpAnyL_done (by kernel_rfl) ?_ _
          have hF := FIN.out _ _ _ _ _ Gw9.out rfl
          generalize hWz : World.setCell _ _ _ = Wz
          first | rw [hWz] at hF | (simp only [List.nil_append, List.length_cons, List.length_nil] at hF; rw [hWz] at hF)
          have HF : Hid _ := hF
          clear hF hWz hbox q0 z0 q3 z3 q4 z4
          go_wp2
          rw [rounds_succ]
          go_wp2
          go_ret2
          obtain ⟨S, g, c0, gh, c1, h1, h2, h3, h4, h5, h6⟩ := HF.out
          rw [HMA.out]
          exact ⟨S, b, p, g, c0, gh, c1, ma, _, rfl, h1, h2, h3, h4, h5, h6⟩
      · go_simp
        obtain ⟨w10, hw10⟩ : ∃ W, w2.alloc (.cells #[.int .i64 0] 3) = W := ⟨_, rfl⟩
        have b10 : Below w2.heap.size w2 w10 := by rw [← hw10]; exact vone_new _ _
        have S10 : Hid (w10.heap[w2.heap.size]? = some (.cells #[.int .i64 0] 3 (0, 0))) := by show _ = _; rw [← hw10]; exact heap_alloc_new _ _
        have L10 : Hid (Wd.heap.size ≤ w2.heap.size) := Gw2.out.low
        have Gw10 : Hid (BgS Wd w10 b (.slice none 0 0) (.slice none 0 0) (.slice none 0 0) (.slice none 0 0) (.slice a2 1 c2) (.slice none 0 0) (.slice none 0 0) ma [.pointer (some ⟨p, 0, none⟩)] [] []) := Gw2.out.new b10
        rw [hw10]
        refine hKa.out _ _ (fun _ => SOK.out _ _ _ _ _ _ _ Gw10.out) ?_
        clear hKa Ka
        try simp only [Act.put, List.setIfInBounds_toArray, List.set_cons_zero, List.set_cons_succ]
        refine wpAnyL_one (i := 14) (by kernel_rfl) rfl (fun Ka hKa => ?_)
        go_simp
        obtain ⟨w11, hw11⟩ : ∃ W, w10.alloc (.cells #[.int .i64 0] 3) = W := ⟨_, rfl⟩
        have b11 : Below w10.heap.size w10 w11 := by rw [← hw11]; exact vone_new _ _
        have S11 : Hid (w11.heap[w10.heap.size]? = some (.cells #[.int .i64 0] 3 (0, 0))) := by show _ = _; rw [← hw11]; exact heap_alloc_new _ _
        have L11 : Hid (Wd.heap.size ≤ w10.heap.size) := Gw10.out.low
        have Gw11 : Hid (BgS Wd w11 b (.slice none 0 0) (.slice none 0 0) (.slice none 0 0) (.slice none 0 0) (.slice a2 1 c2) (.slice none 0 0) (.slice none 0 0) ma [.pointer (some ⟨p, 0, none⟩)] [] []) := Gw10.out.new b11
        have S11C : Hid (w11.heap[w2.heap.size]? = some (.cells #[.int .i64 0] 3 (0, 0))) := (b11.block _ (vlt_blk S10.out)).trans S10.out
        rw [hw11]
        refine hKa.out _ _ (fun _ => SOK.out _ _ _ _ _ _ _ Gw11.out) ?_
        clear hKa Ka
        try simp only [Act.put, List.setIfInBounds_toArray, List.set_cons_zero, List.set_cons_succ]
        refine wpAnyL_one (i := 15) (by kernel_rfl) rfl (fun Ka hKa => ?_)
        obtain ⟨v12, w12, hr12, ho12, hf12, hl12⟩ := app_int Gw11.out.h S11.out rfl (by decide) 26
        have Gw12 : Hid (BgS Wd w12 b (.slice none 0 0) (.slice none 0 0) (.slice none 0 0) (.slice none 0 0) (.slice a2 1 c2) v12 (.slice none 0 0) ma [.pointer (some ⟨p, 0, none⟩)] [.int .i64 0] []) := Gw11.out.appH ho12 hf12 hl12
        have S12C : Hid (w12.heap[w2.heap.size]? = some (.cells #[.int .i64 0] 3 (0, 0))) := src_keep (W0 := Wd) S11C.out L10.out hf12 (fun _ h => by cases h)
        obtain ⟨a12, c12, e12, _⟩ := ho12.shape
        rw [show ([] ++ [.int .i64 0] : List Value).length = 1 from rfl] at e12
        subst e12
        refine stp_run rfl rfl rfl rfl hr12 ?_
        have Gw12 : Hid (BgS Wd w12 b (.slice none 0 0) (.slice none 0 0) (.slice none 0 0) (.slice none 0 0) (.slice a2 1 c2) (.slice a12 1 c12) (.slice none 0 0) ma [.pointer (some ⟨p, 0, none⟩)] [.int .i64 0] []) := Gw12.out
        refine hKa.out _ _ (fun _ => SOK.out _ _ _ _ _ _ _ Gw12.out) ?_
        clear hKa Ka
        try simp only [Act.put, List.setIfInBounds_toArray, List.set_cons_zero, List.set_cons_succ]
        refine wpAnyL_one (i := 21) (by kernel_rfl) rfl (fun Ka hKa => ?_)
        obtain ⟨v13, w13, hr13, ho13, hf13, hl13⟩ := app_int Gw12.out.v S12C.out rfl (by decide) 26
        have Gw13 : Hid (BgS Wd w13 b (.slice none 0 0) (.slice none 0 0) (.slice none 0 0) (.slice none 0 0) (.slice a2 1 c2) (.slice a12 1 c12) v13 ma [.pointer (some ⟨p, 0, none⟩)] [.int .i64 0] [.int .i64 0]) := Gw12.out.appV ho13 hf13 hl13
        obtain ⟨a13, c13, e13, _⟩ := ho13.shape
        rw [show ([] ++ [.int .i64 0] : List Value).length = 1 from rfl] at e13
        subst e13
        refine stp_run rfl rfl rfl rfl hr13 ?_
        have Gw13 : Hid (BgS Wd w13 b (.slice none 0 0) (.slice none 0 0) (.slice none 0 0) (.slice none 0 0) (.slice a2 1 c2) (.slice a12 1 c12) (.slice a13 1 c13) ma [.pointer (some ⟨p, 0, none⟩)] [.int .i64 0] [.int .i64 0]) := Gw13.out
        refine hKa.out _ _ (fun _ => SOK.out _ _ _ _ _ _ _ Gw13.out) ?_
        clear hKa Ka
        try simp only [Act.put, List.setIfInBounds_toArray, List.set_cons_zero, List.set_cons_succ]
        have hbox := Gw13.out.box
        have q0 : w13.cell? ⟨b, 0, none⟩ = some (.slice none 0 0) := by simp [World.cell?, hbox]
        have z0 : w13.frozen? ⟨b, 0, none⟩ = false := hfree hbox 0
        refine wpAnyL_one (i := 22) (by kernel_rfl) rfl (fun Ka hKa => ?_)
        go_simp
        refine hKa.out _ _ (fun _ => SOK.out _ _ _ _ _ _ _ Gw13.out) ?_
        clear hKa Ka
        try simp only [Act.put, List.setIfInBounds_toArray, List.set_cons_zero, List.set_cons_succ]
        refine wpAnyL_one (i := 23) (by kernel_rfl) rfl (fun Ka hKa => ?_)
        go_simp
        refine hKa.out _ _ (fun _ => SOK.out _ _ _ _ _ _ _ Gw13.out) ?_
        clear hKa Ka
        try simp only [Act.put, List.setIfInBounds_toArray, List.set_cons_zero, List.set_cons_succ]
        refine wpAnyL_one (i := 24) (by kernel_rfl) rfl (fun Ka hKa => ?_)
        go_simp
        refine hKa.out _ _ (fun h => absurd h (Bool.eq_false_iff.1 (by kernel_rfl))) ?_
        clear hKa Ka
        try simp only [Act.put, List.setIfInBounds_toArray, List.set_cons_zero, List.set_cons_succ]
        have hbox := vblk_set (i := 0) (.slice a2 1 c2) hbox
        have q3 : ((w13).setCell ⟨b, 0, none⟩ (.slice a2 1 c2)).cell? ⟨b, 3, none⟩ = some (.slice none 0 0) := by simp [World.cell?, hbox]
        have z3 : ((w13).setCell ⟨b, 0, none⟩ (.slice a2 1 c2)).frozen? ⟨b, 3, none⟩ = false := hfree hbox 3
        refine wpAnyL_one (i := 25) (by kernel_rfl) rfl (fun Ka hKa => ?_)
        go_simp
        refine hKa.out _ _ (fun h => absurd h (Bool.eq_false_iff.1 (by kernel_rfl))) ?_
        clear hKa Ka
        try simp only [Act.put, List.setIfInBounds_toArray, List.set_cons_zero, List.set_cons_succ]
        refine wpAnyL_one (i := 26) (by kernel_rfl) rfl (fun Ka hKa => ?_)
        go_simp
        refine hKa.out _ _ (fun h => absurd h (Bool.eq_false_iff.1 (by kernel_rfl))) ?_
        clear hKa Ka
        try simp only [Act.put, List.setIfInBounds_toArray, List.set_cons_zero, List.set_cons_succ]
        refine wpAnyL_one (i := 27) (by kernel_rfl) rfl (fun Ka hKa => ?_)
        go_simp
        refine hKa.out _ _ (fun h => absurd h (Bool.eq_false_iff.1 (by kernel_rfl))) ?_
        clear hKa Ka
        try simp only [Act.put, List.setIfInBounds_toArray, List.set_cons_zero, List.set_cons_succ]
        have hbox := vblk_set (i := 3) (.slice a12 1 c12) hbox
        have q4 : (((w13).setCell ⟨b, 0, none⟩ (.slice a2 1 c2)).setCell ⟨b, 3, none⟩ (.slice a12 1 c12)).cell? ⟨b, 4, none⟩ = some (.slice none 0 0) := by simp [World.cell?, hbox]
        have z4 : (((w13).setCell ⟨b, 0, none⟩ (.slice a2 1 c2)).setCell ⟨b, 3, none⟩ (.slice a12 1 c12)).frozen? ⟨b, 4, none⟩ = false := hfree hbox 4
        refine wpAnyL_one (i := 28) (by kernel_rfl) rfl (fun Ka hKa => ?_)
        go_simp
        refine hKa.out _ _ (fun h => absurd h (Bool.eq_false_iff.1 (by kernel_rfl))) ?_
        clear hKa Ka
        try simp only [Act.put, List.setIfInBounds_toArray, List.set_cons_zero, List.set_cons_succ]
        refine wpAnyL_one (i := 29) (by kernel_rfl) rfl (fun Ka hKa => ?_)
        go_simp
        refine hKa.out _ _ (fun h => absurd h (Bool.eq_false_iff.1 (by kernel_rfl))) ?_
        clear hKa Ka
        try simp only [Act.put, List.setIfInBounds_toArray, List.set_cons_zero, List.set_cons_succ]
        refine wpAnyL_one (i := 30) (by kernel_rfl) rfl (fun Ka hKa => ?_)
        go_simp
        refine hKa.out _ _ (fun h => absurd h (Bool.eq_false_iff.1 (by kernel_rfl))) ?_
        clear hKa Ka
        try simp only [Act.put, List.setIfInBounds_toArray, List.set_cons_zero, List.set_cons_succ]
        refine wpAnyL_done (by kernel_rfl) ?_ _
        have hF := FIN.out _ _ _ _ _ Gw13.out rfl
        generalize hWz : World.setCell _ _ _ = Wz
        first | rw [hWz] at hF | (simp only [List.nil_append, List.length_cons, List.length_nil] at hF; rw [hWz] at hF)
        have HF : Hid _ := hF
        clear hF hWz hbox q0 z0 q3 z3 q4 z4
        go_wp2
        rw [rounds_succ]
        go_wp2
        go_ret2
        obtain ⟨S, g, c0, gh, c1, h1, h2, h3, h4, h5, h6⟩ := HF.out
        rw [HMA.out]
        exact ⟨S, b, p, g, c0, gh, c1, ma, _, rfl, h1, h2, h3, h4, h5, h6⟩
    · go_simp
      obtain ⟨w14, hw14⟩ : ∃ W, w1.alloc (.cells #[.int .i64 0] 3) = W := ⟨_, rfl⟩
      have b14 : Below w1.heap.size w1 w14 := by rw [← hw14]; exact vone_new _ _
      have S14 : Hid (w14.heap[w1.heap.size]? = some (.cells #[.int .i64 0] 3 (0, 0))) := by show _ = _; rw [← hw14]; exact heap_alloc_new _ _
      have L14 : Hid (Wd.heap.size ≤ w1.heap.size) := Gw1.out.low
      have Gw14 : Hid (BgS Wd w14 b (.slice none 0 0) (.slice none 0 0) (.slice none 0 0) (.slice none 0 0) (.slice none 0 0) (.slice none 0 0) (.slice none 0 0) ma [] [] []) := Gw1.out.new b14
      have S14A : Hid (w14.heap[Wd.heap.size]? = some (.cells #[.pointer (some ⟨p, 0, none⟩)] 51 (0, 0))) := (b14.block _ (vlt_blk S1.out)).trans S1.out
      rw [hw14]
      refine hKa.out _ _ (fun _ => SOK.out _ _ _ _ _ _ _ Gw14.out) ?_
      clear hKa Ka
      try simp only [Act.put, List.setIfInBounds_toArray, List.set_cons_zero, List.set_cons_succ]
      refine wpAnyL_two (i := 9) (j := 20) (by kernel_rfl) rfl rfl (fun Ka hKa => ?_) (fun Ka hKa => ?_)
      · obtain ⟨v15, w15, hr15, ho15, hf15, hl15⟩ := app_ptr Gw14.out.l S14A.out rfl (by decide) 67
        have Gw15 : Hid (BgS Wd w15 b (.slice none 0 0) (.slice none 0 0) (.slice none 0 0) (.slice none 0 0) v15 (.slice none 0 0) (.slice none 0 0) ma [.pointer (some ⟨p, 0, none⟩)] [] []) := Gw14.out.appL ho15 hf15 hl15
        have S15B : Hid (w15.heap[w1.heap.size]? = some (.cells #[.int .i64 0] 3 (0, 0))) := src_keep (W0 := Wd) S14.out L14.out hf15 (fun _ h => by cases h)
        obtain ⟨a15, c15, e15, _⟩ := ho15.shape
        rw [show ([] ++ [.pointer (some ⟨p, 0, none⟩)] : List Value).length = 1 from rfl] at e15
        subst e15
        refine stp_run rfl rfl rfl rfl hr15 ?_
        have Gw15 : Hid (BgS Wd w15 b (.slice none 0 0) (.slice none 0 0) (.slice none 0 0) (.slice none 0 0) (.slice a15 1 c15) (.slice none 0 0) (.slice none 0 0) ma [.pointer (some ⟨p, 0, none⟩)] [] []) := Gw15.out
        refine hKa.out _ _ (fun _ => SOK.out _ _ _ _ _ _ _ Gw15.out) ?_
        clear hKa Ka
        try simp only [Act.put, List.setIfInBounds_toArray, List.set_cons_zero, List.set_cons_succ]
        refine wpAnyL_two (i := 15) (j := 20) (by kernel_rfl) rfl rfl (fun Ka hKa => ?_) (fun Ka hKa => ?_)
        · obtain ⟨v16, w16, hr16, ho16, hf16, hl16⟩ := app_int Gw15.out.h S15B.out rfl (by decide) 26
          have Gw16 : Hid (BgS Wd w16 b (.slice none 0 0) (.slice none 0 0) (.slice none 0 0) (.slice none 0 0) (.slice a15 1 c15) v16 (.slice none 0 0) ma [.pointer (some ⟨p, 0, none⟩)] [.int .i64 0] []) := Gw15.out.appH ho16 hf16 hl16
          obtain ⟨a16, c16, e16, _⟩ := ho16.shape
          rw [show ([] ++ [.int .i64 0] : List Value).length = 1 from rfl] at e16
          subst e16
          refine stp_run rfl rfl rfl rfl hr16 ?_
          have Gw16 : Hid (BgS Wd w16 b (.slice none 0 0) (.slice none 0 0) (.slice none 0 0) (.slice none 0 0) (.slice a15 1 c15) (.slice a16 1 c16) (.slice none 0 0) ma [.pointer (some ⟨p, 0, none⟩)] [.int .i64 0] []) := Gw16.out
          refine hKa.out _ _ (fun _ => SOK.out _ _ _ _ _ _ _ Gw16.out) ?_
          clear hKa Ka
          try simp only [Act.put, List.setIfInBounds_toArray, List.set_cons_zero, List.set_cons_succ]
          refine wpAnyL_one (i := 20) (by kernel_rfl) rfl (fun Ka hKa => ?_)
          go_simp
          obtain ⟨w17, hw17⟩ : ∃ W, w16.alloc (.cells #[.int .i64 0] 3) = W := ⟨_, rfl⟩
          have b17 : Below w16.heap.size w16 w17 := by rw [← hw17]; exact vone_new _ _
          have S17 : Hid (w17.heap[w16.heap.size]? = some (.cells #[.int .i64 0] 3 (0, 0))) := by show _ = _; rw [← hw17]; exact heap_alloc_new _ _
          have L17 : Hid (Wd.heap.size ≤ w16.heap.size) := Gw16.out.low
          have Gw17 : Hid (BgS Wd w17 b (.slice none 0 0) (.slice none 0 0) (.slice none 0 0) (.slice none 0 0) (.slice a15 1 c15) (.slice a16 1 c16) (.slice none 0 0) ma [.pointer (some ⟨p, 0, none⟩)] [.int .i64 0] []) := Gw16.out.new b17
          rw [hw17]
          refine hKa.out _ _ (fun _ => SOK.out _ _ _ _ _ _ _ Gw17.out) ?_
          clear hKa Ka
          try simp only [Act.put, List.setIfInBounds_toArray, List.set_cons_zero, List.set_cons_succ]
          refine wpAnyL_one (i := 21) (by kernel_rfl) rfl (fun Ka hKa => ?_)
          obtain ⟨v18, w18, hr18, ho18, hf18, hl18⟩ := app_int Gw17.out.v S17.out rfl (by decide) 26
          have Gw18 : Hid (BgS Wd w18 b (.slice none 0 0) (.slice none 0 0) (.slice none 0 0) (.slice none 0 0) (.slice a15 1 c15) (.slice a16 1 c16) v18 ma [.pointer (some ⟨p, 0, none⟩)] [.int .i64 0] [.int .i64 0]) := Gw17.out.appV ho18 hf18 hl18
          obtain ⟨a18, c18, e18, _⟩ := ho18.shape
          rw [show ([] ++ [.int .i64 0] : List Value).length = 1 from rfl] at e18
          subst e18
          refine stp_run rfl rfl rfl rfl hr18 ?_
          have Gw18 : Hid (BgS Wd w18 b (.slice none 0 0) (.slice none 0 0) (.slice none 0 0) (.slice none 0 0) (.slice a15 1 c15) (.slice a16 1 c16) (.slice a18 1 c18) ma [.pointer (some ⟨p, 0, none⟩)] [.int .i64 0] [.int .i64 0]) := Gw18.out
          refine hKa.out _ _ (fun _ => SOK.out _ _ _ _ _ _ _ Gw18.out) ?_
          clear hKa Ka
          try simp only [Act.put, List.setIfInBounds_toArray, List.set_cons_zero, List.set_cons_succ]
          have hbox := Gw18.out.box
          have q0 : w18.cell? ⟨b, 0, none⟩ = some (.slice none 0 0) := by simp [World.cell?, hbox]
          have z0 : w18.frozen? ⟨b, 0, none⟩ = false := hfree hbox 0
          refine wpAnyL_one (i := 22) (by kernel_rfl) rfl (fun Ka hKa => ?_)
          go_simp
          refine hKa.out _ _ (fun _ => SOK.out _ _ _ _ _ _ _ Gw18.out) ?_
          clear hKa Ka
          try simp only [Act.put, List.setIfInBounds_toArray, List.set_cons_zero, List.set_cons_succ]
          refine wpAnyL_one (i := 23) (by kernel_rfl) rfl (fun Ka hKa => ?_)
          go_simp
          refine hKa.out _ _ (fun _ => SOK.out _ _ _ _ _ _ _ Gw18.out) ?_
          clear hKa Ka
          try simp only [Act.put, List.setIfInBounds_toArray, List.set_cons_zero, List.set_cons_succ]
          refine wpAnyL_one (i := 24) (by kernel_rfl) rfl (fun Ka hKa => ?_)
          go_simp
          refine hKa.out _ _ (fun h => absurd h (Bool.eq_false_iff.1 (by kernel_rfl))) ?_
          clear hKa Ka
          try simp only [Act.put, List.setIfInBounds_toArray, List.set_cons_zero, List.set_cons_succ]
          have hbox := vblk_set (i := 0) (.slice a15 1 c15) hbox
          have q3 : ((w18).setCell ⟨b, 0, none⟩ (.slice a15 1 c15)).cell? ⟨b, 3, none⟩ = some (.slice none 0 0) := by simp [World.cell?, hbox]
          have z3 : ((w18).setCell ⟨b, 0, none⟩ (.slice a15 1 c15)).frozen? ⟨b, 3, none⟩ = false := hfree hbox 3
          refine wpAnyL_one (i := 25) (by kernel_rfl) rfl (fun Ka hKa => ?_)
          go_simp
          refine hKa.out _ _ (fun h => absurd h (Bool.eq_false_iff.1 (by kernel_rfl))) ?_
          clear hKa Ka
          try simp only [Act.put, List.setIfInBounds_toArray, List.set_cons_zero, List.set_cons_succ]
          refine wpAnyL_one (i := 26) (by kernel_rfl) rfl (fun Ka hKa => ?_)
          go_simp
          refine hKa.out _ _ (fun h => absurd h (Bool.eq_false_iff.1 (by kernel_rfl))) ?_
          clear hKa Ka
          try simp only [Act.put, List.setIfInBounds_toArray, List.set_cons_zero, List.set_cons_succ]
          refine wpAnyL_one (i := 27) (by kernel_rfl) rfl (fun Ka hKa => ?_)
          go_simp
          refine hKa.out _ _ (fun h => absurd h (Bool.eq_false_iff.1 (by kernel_rfl))) ?_
          clear hKa Ka
          try simp only [Act.put, List.setIfInBounds_toArray, List.set_cons_zero, List.set_cons_succ]
          have hbox := vblk_set (i := 3) (.slice a16 1 c16) hbox
          have q4 : (((w18).setCell ⟨b, 0, none⟩ (.slice a15 1 c15)).setCell ⟨b, 3, none⟩ (.slice a16 1 c16)).cell? ⟨b, 4, none⟩ = some (.slice none 0 0) := by simp [World.cell?, hbox]
          have z4 : (((w18).setCell ⟨b, 0, none⟩ (.slice a15 1 c15)).setCell ⟨b, 3, none⟩ (.slice a16 1 c16)).frozen? ⟨b, 4, none⟩ = false := hfree hbox 4
          refine wpAnyL_one (i := 28) (by kernel_rfl) rfl (fun Ka hKa => ?_)
          go_simp
          refine hKa.out _ _ (fun h => absurd h (Bool.eq_false_iff.1 (by kernel_rfl))) ?_
          clear hKa Ka
          try simp only [Act.put, List.setIfInBounds_toArray, List.set_cons_zero, List.set_cons_succ]
          refine wpAnyL_one (i := 29) (by kernel_rfl) rfl (fun Ka hKa => ?_)
          go_simp
          refine hKa.out _ _ (fun h => absurd h (Bool.eq_false_iff.1 (by kernel_rfl))) ?_
          clear hKa Ka
          try simp only [Act.put, List.setIfInBounds_toArray, List.set_cons_zero, List.set_cons_succ]
          refine wpAnyL_one (i := 30) (by kernel_rfl) rfl (fun Ka hKa => ?_)
          go_simp
          refine hKa.out _ _ (fun h => absurd h (Bool.eq_false_iff.1 (by kernel_rfl))) ?_
          clear hKa Ka
          try simp only [Act.put, List.setIfInBounds_toArray, List.set_cons_zero, List.set_cons_succ]
          refine wpAnyL_done (by kernel_rfl) ?_ _
          have hF := FIN.out _ _ _ _ _ Gw18.out rfl
          generalize hWz : World.setCell _ _ _ = Wz
          first | rw [hWz] at hF | (simp only [List.nil_append, List.length_cons, List.length_nil] at hF; rw [hWz] at hF)
          have HF : Hid _ := hF
          clear hF hWz hbox q0 z0 q3 z3 q4 z4
          go_wp2
          rw [rounds_succ]
          go_wp2
          go_ret2
          obtain ⟨S, g, c0, gh, c1, h1, h2, h3, h4, h5, h6⟩ := HF.out
          rw [HMA.out]
          exact ⟨S, b, p, g, c0, gh, c1, ma, _, rfl, h1, h2, h3, h4, h5, h6⟩
        · go_simp
          obtain ⟨w19, hw19⟩ : ∃ W, w15.alloc (.cells #[.int .i64 0] 3) = W := ⟨_, rfl⟩
          have b19 : Below w15.heap.size w15 w19 := by rw [← hw19]; exact vone_new _ _
          have S19 : Hid (w19.heap[w15.heap.size]? = some (.cells #[.int .i64 0] 3 (0, 0))) := by show _ = _; rw [← hw19]; exact heap_alloc_new _ _
          have L19 : Hid (Wd.heap.size ≤ w15.heap.size) := Gw15.out.low
          have Gw19 : Hid (BgS Wd w19 b (.slice none 0 0) (.slice none 0 0) (.slice none 0 0) (.slice none 0 0) (.slice a15 1 c15) (.slice none 0 0) (.slice none 0 0) ma [.pointer (some ⟨p, 0, none⟩)] [] []) := Gw15.out.new b19
          have S19B : Hid (w19.heap[w1.heap.size]? = some (.cells #[.int .i64 0] 3 (0, 0))) := (b19.block _ (vlt_blk S15B.out)).trans S15B.out
          rw [hw19]
          refine hKa.out _ _ (fun _ => SOK.out _ _ _ _ _ _ _ Gw19.out) ?_
          clear hKa Ka
          try simp only [Act.put, List.setIfInBounds_toArray, List.set_cons_zero, List.set_cons_succ]
          refine wpAnyL_one (i := 15) (by kernel_rfl) rfl (fun Ka hKa => ?_)
          obtain ⟨v20, w20, hr20, ho20, hf20, hl20⟩ := app_int Gw19.out.h S19B.out rfl (by decide) 26
          have Gw20 : Hid (BgS Wd w20 b (.slice none 0 0) (.slice none 0 0) (.slice none 0 0) (.slice none 0 0) (.slice a15 1 c15) v20 (.slice none 0 0) ma [.pointer (some ⟨p, 0, none⟩)] [.int .i64 0] []) := Gw19.out.appH ho20 hf20 hl20
          have S20C : Hid (w20.heap[w15.heap.size]? = some (.cells #[.int .i64 0] 3 (0, 0))) := src_keep (W0 := Wd) S19.out L19.out hf20 (fun _ h => by cases h)
          obtain ⟨a20, c20, e20, _⟩ := ho20.shape
          rw [show ([] ++ [.int .i64 0] : List Value).length = 1 from rfl] at e20
          subst e20
          refine stp_run rfl rfl rfl rfl hr20 ?_
          have Gw20 : Hid (BgS Wd w20 b (.slice none 0 0) (.slice none 0 0) (.slice none 0 0) (.slice none 0 0) (.slice a15 1 c15) (.slice a20 1 c20) (.slice none 0 0) ma [.pointer (some ⟨p, 0, none⟩)] [.int .i64 0] []) := Gw20.out
          refine hKa.out _ _ (fun _ => SOK.out _ _ _ _ _ _ _ Gw20.out) ?_
          clear hKa Ka
          try simp only [Act.put, List.setIfInBounds_toArray, List.set_cons_zero, List.set_cons_succ]
          refine wpAnyL_one (i := 21) (by kernel_rfl) rfl (fun Ka hKa => ?_)
          obtain ⟨v21, w21, hr21, ho21, hf21, hl21⟩ := app_int Gw20.out.v S20C.out rfl (by decide) 26
          have Gw21 : Hid (BgS Wd w21 b (.slice none 0 0) (.slice none 0 0) (.slice none 0 0) (.slice none 0 0) (.slice a15 1 c15) (.slice a20 1 c20) v21 ma [.pointer (some ⟨p, 0, none⟩)] [.int .i64 0] [.int .i64 0]) := Gw20.out.appV ho21 hf21 hl21
          obtain ⟨a21, c21, e21, _⟩ := ho21.shape
          rw [show ([] ++ [.int .i64 0] : List Value).length = 1 from rfl] at e21
          subst e21
          refine stp_run rfl rfl rfl rfl hr21 ?_
          have Gw21 : Hid (BgS Wd w21 b (.slice none 0 0) (.slice none 0 0) (.slice none 0 0) (.slice none 0 0) (.slice a15 1 c15) (.slice a20 1 c20) (.slice a21 1 c21) ma [.pointer (some ⟨p, 0, none⟩)] [.int .i64 0] [.int .i64 0]) := Gw21.out
          refine hKa.out _ _ (fun _ => SOK.out _ _ _ _ _ _ _ Gw21.out) ?_
          clear hKa Ka
          try simp only [Act.put, List.setIfInBounds_toArray, List.set_cons_zero, List.set_cons_succ]
          have hbox := Gw21.out.box
          have q0 : w21.cell? ⟨b, 0, none⟩ = some (.slice none 0 0) := by simp [World.cell?, hbox]
          have z0 : w21.frozen? ⟨b, 0, none⟩ = false := hfree hbox 0
          refine wpAnyL_one (i := 22) (by kernel_rfl) rfl (fun Ka hKa => ?_)
          go_simp
          refine hKa.out _ _ (fun _ => SOK.out _ _ _ _ _ _ _ Gw21.out) ?_
          clear hKa Ka
          try simp only [Act.put, List.setIfInBounds_toArray, List.set_cons_zero, List.set_cons_succ]
          refine wpAnyL_one (i := 23) (by kernel_rfl) rfl (fun Ka hKa => ?_)
          go_simp
          refine hKa.out _ _ (fun _ => SOK.out _ _ _ _ _ _ _ Gw21.out) ?_
          clear hKa Ka
          try simp only [Act.put, List.setIfInBounds_toArray, List.set_cons_zero, List.set_cons_succ]
          refine wpAnyL_one (i := 24) (by kernel_rfl) rfl (fun Ka hKa => ?_)
          go_simp
          refine hKa.out _ _ (fun h => absurd h (Bool.eq_false_iff.1 (by kernel_rfl))) ?_
          clear hKa Ka
          try simp only [Act.put, List.setIfInBounds_toArray, List.set_cons_zero, List.set_cons_succ]
          have hbox := vblk_set (i := 0) (.slice a15 1 c15) hbox
          have q3 : ((w21).setCell ⟨b, 0, none⟩ (.slice a15 1 c15)).cell? ⟨b, 3, none⟩ = some (.slice none 0 0) := by simp [World.cell?, hbox]
          have z3 : ((w21).setCell ⟨b, 0, none⟩ (.slice a15 1 c15)).frozen? ⟨b, 3, none⟩ = false := hfree hbox 3
          refine wpAnyL_one (i := 25) (by kernel_rfl) rfl (fun Ka hKa => ?_)
          go_simp
          refine hKa.out _ _ (fun h => absurd h (Bool.eq_false_iff.1 (by kernel_rfl))) ?_
          clear hKa Ka
          try simp only [Act.put, List.setIfInBounds_toArray, List.set_cons_zero, List.set_cons_succ]
          refine wpAnyL_one (i := 26) (by kernel_rfl) rfl (fun Ka hKa => ?_)
          go_simp
          refine hKa.out _ _ (fun h => absurd h (Bool.eq_false_iff.1 (by kernel_rfl))) ?_
          clear hKa Ka
          try simp only [Act.put, List.setIfInBounds_toArray, List.set_cons_zero, List.set_cons_succ]
          refine wpAnyL_one (i := 27) (by kernel_rfl) rfl (fun Ka hKa => ?_)
          go_simp
          refine hKa.out _ _ (fun h => absurd h (Bool.eq_false_iff.1 (by kernel_rfl))) ?_
          clear hKa Ka
          try simp only [Act.put, List.setIfInBounds_toArray, List.set_cons_zero, List.set_cons_succ]
          have hbox := vblk_set (i := 3) (.slice a20 1 c20) hbox
          have q4 : (((w21).setCell ⟨b, 0, none⟩ (.slice a15 1 c15)).setCell ⟨b, 3, none⟩ (.slice a20 1 c20)).cell? ⟨b, 4, none⟩ = some (.slice none 0 0) := by simp [World.cell?, hbox]
          have z4 : (((w21).setCell ⟨b, 0, none⟩ (.slice a15 1 c15)).setCell ⟨b, 3, none⟩ (.slice a20 1 c20)).frozen? ⟨b, 4, none⟩ = false := hfree hbox 4
          refine wpAnyL_one (i := 28) (by kernel_rfl) rfl (fun Ka hKa => ?_)
          go_simp
          refine hKa.out _ _ (fun h => absurd h (Bool.eq_false_iff.1 (by kernel_rfl))) ?_
          clear hKa Ka
          try simp only [Act.put, List.setIfInBounds_toArray, List.set_cons_zero, List.set_cons_succ]
          refine wpAnyL_one (i := 29) (by kernel_rfl) rfl (fun Ka hKa => ?_)
          go_simp
          refine hKa.out _ _ (fun h => absurd h (Bool.eq_false_iff.1 (by kernel_rfl))) ?_
          clear hKa Ka
          try simp only [Act.put, List.setIfInBounds_toArray, List.set_cons_zero, List.set_cons_succ]
          refine wpAnyL_one (i := 30) (by kernel_rfl) rfl (fun Ka hKa => ?_)
          go_simp
          refine hKa.out _ _ (fun h => absurd h (Bool.eq_false_iff.1 (by kernel_rfl))) ?_
          clear hKa Ka
          try simp only [Act.put, List.setIfInBounds_toArray, List.set_cons_zero, List.set_cons_succ]
          refine wpAnyL_done (by kernel_rfl) ?_ _
          have hF := FIN.out _ _ _ _ _ Gw21.out rfl
          generalize hWz : World.setCell _ _ _ = Wz
          first | rw [hWz] at hF | (simp only [List.nil_append, List.length_cons, List.length_nil] at hF; rw [hWz] at hF)
          have HF : Hid _ := hF
          clear hF hWz hbox q0 z0 q3 z3 q4 z4
          go_wp2
          rw [rounds_succ]
          go_wp2
          go_ret2
          obtain ⟨S, g, c0, gh, c1, h1, h2, h3, h4, h5, h6⟩ := HF.out
          rw [HMA.out]
          exact ⟨S, b, p, g, c0, gh, c1, ma, _, rfl, h1, h2, h3, h4, h5, h6⟩
      · go_simp
        obtain ⟨w22, hw22⟩ : ∃ W, w14.alloc (.cells #[.int .i64 0] 3) = W := ⟨_, rfl⟩
        have b22 : Below w14.heap.size w14 w22 := by rw [← hw22]; exact vone_new _ _
        have S22 : Hid (w22.heap[w14.heap.size]? = some (.cells #[.int .i64 0] 3 (0, 0))) := by show _ = _; rw [← hw22]; exact heap_alloc_new _ _
        have L22 : Hid (Wd.heap.size ≤ w14.heap.size) := Gw14.out.low
        have Gw22 : Hid (BgS Wd w22 b (.slice none 0 0) (.slice none 0 0) (.slice none 0 0) (.slice none 0 0) (.slice none 0 0) (.slice none 0 0) (.slice none 0 0) ma [] [] []) := Gw14.out.new b22
        have S22A : Hid (w22.heap[Wd.heap.size]? = some (.cells #[.pointer (some ⟨p, 0, none⟩)] 51 (0, 0))) := (b22.block _ (vlt_blk S14A.out)).trans S14A.out
        have S22B : Hid (w22.heap[w1.heap.size]? = some (.cells #[.int .i64 0] 3 (0, 0))) := (b22.block _ (vlt_blk S14.out)).trans S14.out
        rw [hw22]
        refine hKa.out _ _ (fun _ => SOK.out _ _ _ _ _ _ _ Gw22.out) ?_
        clear hKa Ka
        try simp only [Act.put, List.setIfInBounds_toArray, List.set_cons_zero, List.set_cons_succ]
        refine wpAnyL_one (i := 9) (by kernel_rfl) rfl (fun Ka hKa => ?_)
        obtain ⟨v23, w23, hr23, ho23, hf23, hl23⟩ := app_ptr Gw22.out.l S22A.out rfl (by decide) 67
        have Gw23 : Hid (BgS Wd w23 b (.slice none 0 0) (.slice none 0 0) (.slice none 0 0) (.slice none 0 0) v23 (.slice none 0 0) (.slice none 0 0) ma [.pointer (some ⟨p, 0, none⟩)] [] []) := Gw22.out.appL ho23 hf23 hl23
        have S23B : Hid (w23.heap[w1.heap.size]? = some (.cells #[.int .i64 0] 3 (0, 0))) := src_keep (W0 := Wd) S22B.out L14.out hf23 (fun _ h => by cases h)
        have S23C : Hid (w23.heap[w14.heap.size]? = some (.cells #[.int .i64 0] 3 (0, 0))) := src_keep (W0 := Wd) S22.out L22.out hf23 (fun _ h => by cases h)
        obtain ⟨a23, c23, e23, _⟩ := ho23.shape
        rw [show ([] ++ [.pointer (some ⟨p, 0, none⟩)] : List Value).length = 1 from rfl] at e23
        subst e23
        refine stp_run rfl rfl rfl rfl hr23 ?_
        have Gw23 : Hid (BgS Wd w23 b (.slice none 0 0) (.slice none 0 0) (.slice none 0 0) (.slice none 0 0) (.slice a23 1 c23) (.slice none 0 0) (.slice none 0 0) ma [.pointer (some ⟨p, 0, none⟩)] [] []) := Gw23.out
        refine hKa.out _ _ (fun _ => SOK.out _ _ _ _ _ _ _ Gw23.out) ?_
        clear hKa Ka
        try simp only [Act.put, List.setIfInBounds_toArray, List.set_cons_zero, List.set_cons_succ]
        refine wpAnyL_one (i := 15) (by kernel_rfl) rfl (fun Ka hKa => ?_)
        obtain ⟨v24, w24, hr24, ho24, hf24, hl24⟩ := app_int Gw23.out.h S23B.out rfl (by decide) 26
        have Gw24 : Hid (BgS Wd w24 b (.slice none 0 0) (.slice none 0 0) (.slice none 0 0) (.slice none 0 0) (.slice a23 1 c23) v24 (.slice none 0 0) ma [.pointer (some ⟨p, 0, none⟩)] [.int .i64 0] []) := Gw23.out.appH ho24 hf24 hl24
        have S24C : Hid (w24.heap[w14.heap.size]? = some (.cells #[.int .i64 0] 3 (0, 0))) := src_keep (W0 := Wd) S23C.out L22.out hf24 (fun _ h => by cases h)
        obtain ⟨a24, c24, e24, _⟩ := ho24.shape
        rw [show ([] ++ [.int .i64 0] : List Value).length = 1 from rfl] at e24
        subst e24
        refine stp_run rfl rfl rfl rfl hr24 ?_
        have Gw24 : Hid (BgS Wd w24 b (.slice none 0 0) (.slice none 0 0) (.slice none 0 0) (.slice none 0 0) (.slice a23 1 c23) (.slice a24 1 c24) (.slice none 0 0) ma [.pointer (some ⟨p, 0, none⟩)] [.int .i64 0] []) := Gw24.out
        refine hKa.out _ _ (fun _ => SOK.out _ _ _ _ _ _ _ Gw24.out) ?_
        clear hKa Ka
        try simp only [Act.put, List.setIfInBounds_toArray, List.set_cons_zero, List.set_cons_succ]
        refine wpAnyL_one (i := 21) (by kernel_rfl) rfl (fun Ka hKa => ?_)
        obtain ⟨v25, w25, hr25, ho25, hf25, hl25⟩ := app_int Gw24.out.v S24C.out rfl (by decide) 26
        have Gw25 : Hid (BgS Wd w25 b (.slice none 0 0) (.slice none 0 0) (.slice none 0 0) (.slice none 0 0) (.slice a23 1 c23) (.slice a24 1 c24) v25 ma [.pointer (some ⟨p, 0, none⟩)] [.int .i64 0] [.int .i64 0]) := Gw24.out.appV ho25 hf25 hl25
        obtain ⟨a25, c25, e25, _⟩ := ho25.shape
        rw [show ([] ++ [.int .i64 0] : List Value).length = 1 from rfl] at e25
        subst e25
        refine stp_run rfl rfl rfl rfl hr25 ?_
        have Gw25 : Hid (BgS Wd w25 b (.slice none 0 0) (.slice none 0 0) (.slice none 0 0) (.slice none 0 0) (.slice a23 1 c23) (.slice a24 1 c24) (.slice a25 1 c25) ma [.pointer (some ⟨p, 0, none⟩)] [.int .i64 0] [.int .i64 0]) := Gw25.out
        refine hKa.out _ _ (fun _ => SOK.out _ _ _ _ _ _ _ Gw25.out) ?_
        clear hKa Ka
        try simp only [Act.put, List.setIfInBounds_toArray, List.set_cons_zero, List.set_cons_succ]
        have hbox := Gw25.out.box
        have q0 : w25.cell? ⟨b, 0, none⟩ = some (.slice none 0 0) := by simp [World.cell?, hbox]
        have z0 : w25.frozen? ⟨b, 0, none⟩ = false := hfree hbox 0
        refine wpAnyL_one (i := 22) (by kernel_rfl) rfl (fun Ka hKa => ?_)
        go_simp
        refine hKa.out _ _ (fun _ => SOK.out _ _ _ _ _ _ _ Gw25.out) ?_
        clear hKa Ka
        try simp only [Act.put, List.setIfInBounds_toArray, List.set_cons_zero, List.set_cons_succ]
        refine wpAnyL_one (i := 23) (by kernel_rfl) rfl (fun Ka hKa => ?_)
        go_simp
        refine hKa.out _ _ (fun _ => SOK.out _ _ _ _ _ _ _ Gw25.out) ?_
        clear hKa Ka
        try simp only [Act.put, List.setIfInBounds_toArray, List.set_cons_zero, List.set_cons_succ]
        refine wpAnyL_one (i := 24) (by kernel_rfl) rfl (fun Ka hKa => ?_)
        go_simp
        refine hKa.out _ _ (fun h => absurd h (Bool.eq_false_iff.1 (by kernel_rfl))) ?_
        clear hKa Ka
        try simp only [Act.put, List.setIfInBounds_toArray, List.set_cons_zero, List.set_cons_succ]
        have hbox := vblk_set (i := 0) (.slice a23 1 c23) hbox
        have q3 : ((w25).setCell ⟨b, 0, none⟩ (.slice a23 1 c23)).cell? ⟨b, 3, none⟩ = some (.slice none 0 0) := by simp [World.cell?, hbox]
        have z3 : ((w25).setCell ⟨b, 0, none⟩ (.slice a23 1 c23)).frozen? ⟨b, 3, none⟩ = false := hfree hbox 3
        refine wpAnyL_one (i := 25) (by kernel_rfl) rfl (fun Ka hKa => ?_)
        go_simp
        refine hKa.out _ _ (fun h => absurd h (Bool.eq_false_iff.1 (by kernel_rfl))) ?_
        clear hKa Ka
        try simp only [Act.put, List.setIfInBounds_toArray, List.set_cons_zero, List.set_cons_succ]
        refine wpAnyL_one (i := 26) (by kernel_rfl) rfl (fun Ka hKa => ?_)
        go_simp
        refine hKa.out _ _ (fun h => absurd h (Bool.eq_false_iff.1 (by kernel_rfl))) ?_
        clear hKa Ka
        try simp only [Act.put, List.setIfInBounds_toArray, List.set_cons_zero, List.set_cons_succ]
        refine wpAnyL_one (i := 27) (by kernel_rfl) rfl (fun Ka hKa => ?_)
        go_simp
        refine hKa.out _ _ (fun h => absurd h (Bool.eq_false_iff.1 (by kernel_rfl))) ?_
        clear hKa Ka
        try simp only [Act.put, List.setIfInBounds_toArray, List.set_cons_zero, List.set_cons_succ]
        have hbox := vblk_set (i := 3) (.slice a24 1 c24) hbox
        have q4 : (((w25).setCell ⟨b, 0, none⟩ (.slice a23 1 c23)).setCell ⟨b, 3, none⟩ (.slice a24 1 c24)).cell? ⟨b, 4, none⟩ = some (.slice none 0 0) := by simp [World.cell?, hbox]
        have z4 : (((w25).setCell ⟨b, 0, none⟩ (.slice a23 1 c23)).setCell ⟨b, 3, none⟩ (.slice a24 1 c24)).frozen? ⟨b, 4, none⟩ = false := hfree hbox 4
        refine wpAnyL_one (i := 28) (by kernel_rfl) rfl (fun Ka hKa => ?_)
        go_simp
        refine hKa.out _ _ (fun h => absurd h (Bool.eq_false_iff.1 (by kernel_rfl))) ?_
        clear hKa Ka
        try simp only [Act.put, List.setIfInBounds_toArray, List.set_cons_zero, List.set_cons_succ]
        refine wpAnyL_one (i := 29) (by kernel_rfl) rfl (fun Ka hKa => ?_)
        go_simp
        refine hKa.out _ _ (fun h => absurd h (Bool.eq_false_iff.1 (by kernel_rfl))) ?_
        clear hKa Ka
        try simp only [Act.put, List.setIfInBounds_toArray, List.set_cons_zero, List.set_cons_succ]
        refine wpAnyL_one (i := 30) (by kernel_rfl) rfl (fun Ka hKa => ?_)
        go_simp
        refine hKa.out _ _ (fun h => absurd h (Bool.eq_false_iff.1 (by kernel_rfl))) ?_
        clear hKa Ka
        try simp only [Act.put, List.setIfInBounds_toArray, List.set_cons_zero, List.set_cons_succ]
        refine wpAnyL_done (by kernel_rfl) ?_ _
        have hF := FIN.out _ _ _ _ _ Gw25.out rfl
        generalize hWz : World.setCell _ _ _ = Wz
        first | rw [hWz] at hF | (simp only [List.nil_append, List.length_cons, List.length_nil] at hF; rw [hWz] at hF)
        have HF : Hid _ := hF
        clear hF hWz hbox q0 z0 q3 z3 q4 z4
        go_wp2
        rw [rounds_succ]
        go_wp2
        go_ret2
        obtain ⟨S, g, c0, gh, c1, h1, h2, h3, h4, h5, h6⟩ := HF.out
        rw [HMA.out]
        exact ⟨S, b, p, g, c0, gh, c1, ma, _, rfl, h1, h2, h3, h4, h5, h6⟩
    · go_simp
      obtain ⟨w26, hw26⟩ : ∃ W, w1.alloc (.cells #[.int .i64 0] 3) = W := ⟨_, rfl⟩
      have b26 : Below w1.heap.size w1 w26 := by rw [← hw26]; exact vone_new _ _
      have S26 : Hid (w26.heap[w1.heap.size]? = some (.cells #[.int .i64 0] 3 (0, 0))) := by show _ = _; rw [← hw26]; exact heap_alloc_new _ _
      have L26 : Hid (Wd.heap.size ≤ w1.heap.size) := Gw1.out.low
      have Gw26 : Hid (BgS Wd w26 b (.slice none 0 0) (.slice none 0 0) (.slice none 0 0) (.slice none 0 0) (.slice none 0 0) (.slice none 0 0) (.slice none 0 0) ma [] [] []) := Gw1.out.new b26
      have S26A : Hid (w26.heap[Wd.heap.size]? = some (.cells #[.pointer (some ⟨p, 0, none⟩)] 51 (0, 0))) := (b26.block _ (vlt_blk S1.out)).trans S1.out
      rw [hw26]
      refine hKa.out _ _ (fun _ => SOK.out _ _ _ _ _ _ _ Gw26.out) ?_
      clear hKa Ka
      try simp only [Act.put, List.setIfInBounds_toArray, List.set_cons_zero, List.set_cons_succ]
      refine wpAnyL_two (i := 9) (j := 14) (by kernel_rfl) rfl rfl (fun Ka hKa => ?_) (fun Ka hKa => ?_)
      · obtain ⟨v27, w27, hr27, ho27, hf27, hl27⟩ := app_ptr Gw26.out.l S26A.out rfl (by decide) 67
        have Gw27 : Hid (BgS Wd w27 b (.slice none 0 0) (.slice none 0 0) (.slice none 0 0) (.slice none 0 0) v27 (.slice none 0 0) (.slice none 0 0) ma [.pointer (some ⟨p, 0, none⟩)] [] []) := Gw26.out.appL ho27 hf27 hl27
        have S27C : Hid (w27.heap[w1.heap.size]? = some (.cells #[.int .i64 0] 3 (0, 0))) := src_keep (W0 := Wd) S26.out L26.out hf27 (fun _ h => by cases h)
        obtain ⟨a27, c27, e27, _⟩ := ho27.shape
        rw [show ([] ++ [.pointer (some ⟨p, 0, none⟩)] : List Value).length = 1 from rfl] at e27
        subst e27
        refine stp_run rfl rfl rfl rfl hr27 ?_
        have Gw27 : Hid (BgS Wd w27 b (.slice none 0 0) (.slice none 0 0) (.slice none 0 0) (.slice none 0 0) (.slice a27 1 c27) (.slice none 0 0) (.slice none 0 0) ma [.pointer (some ⟨p, 0, none⟩)] [] []) := Gw27.out
        refine hKa.out _ _ (fun _ => SOK.out _ _ _ _ _ _ _ Gw27.out) ?_
        clear hKa Ka
        try simp only [Act.put, List.setIfInBounds_toArray, List.set_cons_zero, List.set_cons_succ]
        refine wpAnyL_one (i := 14) (by kernel_rfl) rfl (fun Ka hKa => ?_)
        go_simp
        obtain ⟨w28, hw28⟩ : ∃ W, w27.alloc (.cells #[.int .i64 0] 3) = W := ⟨_, rfl⟩
        have b28 : Below w27.heap.size w27 w28 := by rw [← hw28]; exact vone_new _ _
        have S28 : Hid (w28.heap[w27.heap.size]? = some (.cells #[.int .i64 0] 3 (0, 0))) := by show _ = _; rw [← hw28]; exact heap_alloc_new _ _
        have L28 : Hid (Wd.heap.size ≤ w27.heap.size) := Gw27.out.low
        have Gw28 : Hid (BgS Wd w28 b (.slice none 0 0) (.slice none 0 0) (.slice none 0 0) (.slice none 0 0) (.slice a27 1 c27) (.slice none 0 0) (.slice none 0 0) ma [.pointer (some ⟨p, 0, none⟩)] [] []) := Gw27.out.new b28
        have S28C : Hid (w28.heap[w1.heap.size]? = some (.cells #[.int .i64 0] 3 (0, 0))) := (b28.block _ (vlt_blk S27C.out)).trans S27C.out
        rw [hw28]
        refine hKa.out _ _ (fun _ => SOK.out _ _ _ _ _ _ _ Gw28.out) ?_
        clear hKa Ka
        try simp only [Act.put, List.setIfInBounds_toArray, List.set_cons_zero, List.set_cons_succ]
        refine wpAnyL_one (i := 15) (by kernel_rfl) rfl (fun Ka hKa => ?_)
        obtain ⟨v29, w29, hr29, ho29, hf29, hl29⟩ := app_int Gw28.out.h S28.out rfl (by decide) 26
        have Gw29 : Hid (BgS Wd w29 b (.slice none 0 0) (.slice none 0 0) (.slice none 0 0) (.slice none 0 0) (.slice a27 1 c27) v29 (.slice none 0 0) ma [.pointer (some ⟨p, 0, none⟩)] [.int .i64 0] []) := Gw28.out.appH ho29 hf29 hl29
        have S29C : Hid (w29.heap[w1.heap.size]? = some (.cells #[.int .i64 0] 3 (0, 0))) := src_keep (W0 := Wd) S28C.out L26.out hf29 (fun _ h => by cases h)
        obtain ⟨a29, c29, e29, _⟩ := ho29.shape
        rw [show ([] ++ [.int .i64 0] : List Value).length = 1 from rfl] at e29
        subst e29
        refine stp_run rfl rfl rfl rfl hr29 ?_
        have Gw29 : Hid (BgS Wd w29 b (.slice none 0 0) (.slice none 0 0) (.slice none 0 0) (.slice none 0 0) (.slice a27 1 c27) (.slice a29 1 c29) (.slice none 0 0) ma [.pointer (some ⟨p, 0, none⟩)] [.int .i64 0] []) := Gw29.out
        refine hKa.out _ _ (fun _ => SOK.out _ _ _ _ _ _ _ Gw29.out) ?_
        clear hKa Ka
        try simp only [Act.put, List.setIfInBounds_toArray, List.set_cons_zero, List.set_cons_succ]
        refine wpAnyL_one (i := 21) (by kernel_rfl) rfl (fun Ka hKa => ?_)
        obtain ⟨v30, w30, hr30, ho30, hf30, hl30⟩ := app_int Gw29.out.v S29C.out rfl (by decide) 26
        have Gw30 : Hid (BgS Wd w30 b (.slice none 0 0) (.slice none 0 0) (.slice none 0 0) (.slice none 0 0) (.slice a27 1 c27) (.slice a29 1 c29) v30 ma [.pointer (some ⟨p, 0, none⟩)] [.int .i64 0] [.int .i64 0]) := Gw29.out.appV ho30 hf30 hl30
        obtain ⟨a30, c30, e30, _⟩ := ho30.shape
        rw [show ([] ++ [.int .i64 0] : List Value).length = 1 from rfl] at e30
        subst e30
        refine stp_run rfl rfl rfl rfl hr30 ?_
        have Gw30 : Hid (BgS Wd w30 b (.slice none 0 0) (.slice none 0 0) (.slice none 0 0) (.slice none 0 0) (.slice a27 1 c27) (.slice a29 1 c29) (.slice a30 1 c30) ma [.pointer (some ⟨p, 0, none⟩)] [.int .i64 0] [.int .i64 0]) := Gw30.out
        refine hKa.out _ _ (fun _ => SOK.out _ _ _ _ _ _ _ Gw30.out) ?_
        clear hKa Ka
        try simp only [Act.put, List.setIfInBounds_toArray, List.set_cons_zero, List.set_cons_succ]
        have hbox := Gw30.out.box
        have q0 : w30.cell? ⟨b, 0, none⟩ = some (.slice none 0 0) := by simp [World.cell?, hbox]
        have z0 : w30.frozen? ⟨b, 0, none⟩ = false := hfree hbox 0
        refine wpAnyL_one (i := 22) (by kernel_rfl) rfl (fun Ka hKa => ?_)
        go_simp
        refine hKa.out _ _ (fun _ => SOK.out _ _ _ _ _ _ _ Gw30.out) ?_
        clear hKa Ka
        try simp only [Act.put, List.setIfInBounds_toArray, List.set_cons_zero, List.set_cons_succ]
        refine wpAnyL_one (i := 23) (by kernel_rfl) rfl (fun Ka hKa => ?_)
        go_simp
        refine hKa.out _ _ (fun _ => SOK.out _ _ _ _ _ _ _ Gw30.out) ?_
        clear hKa Ka
        try simp only [Act.put, List.setIfInBounds_toArray, List.set_cons_zero, List.set_cons_succ]
        refine wpAnyL_one (i := 24) (by kernel_rfl) rfl (fun Ka hKa => ?_)
        go_simp
        refine hKa.out _ _ (fun h => absurd h (Bool.eq_false_iff.1 (by kernel_rfl))) ?_
        clear hKa Ka
        try simp only [Act.put, List.setIfInBounds_toArray, List.set_cons_zero, List.set_cons_succ]
        have hbox := vblk_set (i := 0) (.slice a27 1 c27) hbox
        have q3 : ((w30).setCell ⟨b, 0, none⟩ (.slice a27 1 c27)).cell? ⟨b, 3, none⟩ = some (.slice none 0 0) := by simp [World.cell?, hbox]
        have z3 : ((w30).setCell ⟨b, 0, none⟩ (.slice a27 1 c27)).frozen? ⟨b, 3, none⟩ = false := hfree hbox 3
        refine wpAnyL_one (i := 25) (by kernel_rfl) rfl (fun Ka hKa => ?_)
        go_simp
        refine hKa.out _ _ (fun h => absurd h (Bool.eq_false_iff.1 (by kernel_rfl))) ?_
        clear hKa Ka
        try simp only [Act.put, List.setIfInBounds_toArray, List.set_cons_zero, List.set_cons_succ]
        refine wpAnyL_one (i := 26) (by kernel_rfl) rfl (fun Ka hKa => ?_)
        go_simp
        refine hKa.out _ _ (fun h => absurd h (Bool.eq_false_iff.1 (by kernel_rfl))) ?_
        clear hKa Ka
        try simp only [Act.put, List.setIfInBounds_toArray, List.set_cons_zero, List.set_cons_succ]
        refine wpAnyL_one (i := 27) (by kernel_rfl) rfl (fun Ka hKa => ?_)
        go_simp
        refine hKa.out _ _ (fun h => absurd h (Bool.eq_false_iff.1 (by kernel_rfl))) ?_
        clear hKa Ka
        try simp only [Act.put, List.setIfInBounds_toArray, List.set_cons_zero, List.set_cons_succ]
        have hbox := vblk_set (i := 3) (.slice a29 1 c29) hbox
        have q4 : (((w30).setCell ⟨b, 0, none⟩ (.slice a27 1 c27)).setCell ⟨b, 3, none⟩ (.slice a29 1 c29)).cell? ⟨b, 4, none⟩ = some (.slice none 0 0) := by simp [World.cell?, hbox]
        have z4 : (((w30).setCell ⟨b, 0, none⟩ (.slice a27 1 c27)).setCell ⟨b, 3, none⟩ (.slice a29 1 c29)).frozen? ⟨b, 4, none⟩ = false := hfree hbox 4
        refine wpAnyL_one (i := 28) (by kernel_rfl) rfl (fun Ka hKa => ?_)
        go_simp
        refine hKa.out _ _ (fun h => absurd h (Bool.eq_false_iff.1 (by kernel_rfl))) ?_
        clear hKa Ka
        try simp only [Act.put, List.setIfInBounds_toArray, List.set_cons_zero, List.set_cons_succ]
        refine wpAnyL_one (i := 29) (by kernel_rfl) rfl (fun Ka hKa => ?_)
        go_simp
        refine hKa.out _ _ (fun h => absurd h (Bool.eq_false_iff.1 (by kernel_rfl))) ?_
        clear hKa Ka
        try simp only [Act.put, List.setIfInBounds_toArray, List.set_cons_zero, List.set_cons_succ]
        refine wpAnyL_one (i := 30) (by kernel_rfl) rfl (fun Ka hKa => ?_)
        go_simp
        refine hKa.out _ _ (fun h => absurd h (Bool.eq_false_iff.1 (by kernel_rfl))) ?_
        clear hKa Ka
        try simp only [Act.put, List.setIfInBounds_toArray, List.set_cons_zero, List.set_cons_succ]
        refine wpAnyL_done (by kernel_rfl) ?_ _
        have hF := FIN.out _ _ _ _ _ Gw30.out rfl
        generalize hWz : World.setCell _ _ _ = Wz
        first | rw [hWz] at hF | (simp only [List.nil_append, List.length_cons, List.length_nil] at hF; rw [hWz] at hF)
        have HF : Hid _ := hF
        clear hF hWz hbox q0 z0 q3 z3 q4 z4
        go_wp2
        rw [rounds_succ]
        go_wp2
        go_ret2
        obtain ⟨S, g, c0, gh, c1, h1, h2, h3, h4, h5, h6⟩ := HF.out
        rw [HMA.out]
        exact ⟨S, b, p, g, c0, gh, c1, ma, _, rfl, h1, h2, h3, h4, h5, h6⟩
      · go_simp
        obtain ⟨w31, hw31⟩ : ∃ W, w26.alloc (.cells #[.int .i64 0] 3) = W := ⟨_, rfl⟩
        have b31 : Below w26.heap.size w26 w31 := by rw [← hw31]; exact vone_new _ _
        have S31 : Hid (w31.heap[w26.heap.size]? = some (.cells #[.int .i64 0] 3 (0, 0))) := by show _ = _; rw [← hw31]; exact heap_alloc_new _ _
        have L31 : Hid (Wd.heap.size ≤ w26.heap.size) := Gw26.out.low
        have Gw31 : Hid (BgS Wd w31 b (.slice none 0 0) (.slice none 0 0) (.slice none 0 0) (.slice none 0 0) (.slice none 0 0) (.slice none 0 0) (.slice none 0 0) ma [] [] []) := Gw26.out.new b31
        have S31A : Hid (w31.heap[Wd.heap.size]? = some (.cells #[.pointer (some ⟨p, 0, none⟩)] 51 (0, 0))) := (b31.block _ (vlt_blk S26A.out)).trans S26A.out
        have S31C : Hid (w31.heap[w1.heap.size]? = some (.cells #[.int .i64 0] 3 (0, 0))) := (b31.block _ (vlt_blk S26.out)).trans S26.out
        rw [hw31]
        refine hKa.out _ _ (fun _ => SOK.out _ _ _ _ _ _ _ Gw31.out) ?_
        clear hKa Ka
        try simp only [Act.put, List.setIfInBounds_toArray, List.set_cons_zero, List.set_cons_succ]
        refine wpAnyL_one (i := 9) (by kernel_rfl) rfl (fun Ka hKa => ?_)
        obtain ⟨v32, w32, hr32, ho32, hf32, hl32⟩ := app_ptr Gw31.out.l S31A.out rfl (by decide) 67
        have Gw32 : Hid (BgS Wd w32 b (.slice none 0 0) (.slice none 0 0) (.slice none 0 0) (.slice none 0 0) v32 (.slice none 0 0) (.slice none 0 0) ma [.pointer (some ⟨p, 0, none⟩)] [] []) := Gw31.out.appL ho32 hf32 hl32
        have S32C : Hid (w32.heap[w1.heap.size]? = some (.cells #[.int .i64 0] 3 (0, 0))) := src_keep (W0 := Wd) S31C.out L26.out hf32 (fun _ h => by cases h)
        have S32B : Hid (w32.heap[w26.heap.size]? = some (.cells #[.int .i64 0] 3 (0, 0))) := src_keep (W0 := Wd) S31.out L31.out hf32 (fun _ h => by cases h)
        obtain ⟨a32, c32, e32, _⟩ := ho32.shape
        rw [show ([] ++ [.pointer (some ⟨p, 0, none⟩)] : List Value).length = 1 from rfl] at e32
        subst e32
        refine stp_run rfl rfl rfl rfl hr32 ?_
        have Gw32 : Hid (BgS Wd w32 b (.slice none 0 0) (.slice none 0 0) (.slice none 0 0) (.slice none 0 0) (.slice a32 1 c32) (.slice none 0 0) (.slice none 0 0) ma [.pointer (some ⟨p, 0, none⟩)] [] []) := Gw32.out
        refine hKa.out _ _ (fun _ => SOK.out _ _ _ _ _ _ _ Gw32.out) ?_
        clear hKa Ka
        try simp only [Act.put, List.setIfInBounds_toArray, List.set_cons_zero, List.set_cons_succ]
        refine wpAnyL_one (i := 15) (by kernel_rfl) rfl (fun Ka hKa => ?_)
        obtain ⟨v33, w33, hr33, ho33, hf33, hl33⟩ := app_int Gw32.out.h S32B.out rfl (by decide) 26
        have Gw33 : Hid (BgS Wd w33 b (.slice none 0 0) (.slice none 0 0) (.slice none 0 0) (.slice none 0 0) (.slice a32 1 c32) v33 (.slice none 0 0) ma [.pointer (some ⟨p, 0, none⟩)] [.int .i64 0] []) := Gw32.out.appH ho33 hf33 hl33
        have S33C : Hid (w33.heap[w1.heap.size]? = some (.cells #[.int .i64 0] 3 (0, 0))) := src_keep (W0 := Wd) S32C.out L26.out hf33 (fun _ h => by cases h)
        obtain ⟨a33, c33, e33, _⟩ := ho33.shape
        rw [show ([] ++ [.int .i64 0] : List Value).length = 1 from rfl] at e33
        subst e33
        refine stp_run rfl rfl rfl rfl hr33 ?_
        have Gw33 : Hid (BgS Wd w33 b (.slice none 0 0) (.slice none 0 0) (.slice none 0 0) (.slice none 0 0) (.slice a32 1 c32) (.slice a33 1 c33) (.slice none 0 0) ma [.pointer (some ⟨p, 0, none⟩)] [.int .i64 0] []) := Gw33.out
        refine hKa.out _ _ (fun _ => SOK.out _ _ _ _ _ _ _ Gw33.out) ?_
        clear hKa Ka
        try simp only [Act.put, List.setIfInBounds_toArray, List.set_cons_zero, List.set_cons_succ]
        refine wpAnyL_one (i := 21) (by kernel_rfl) rfl (fun Ka hKa => ?_)
        obtain ⟨v34, w34, hr34, ho34, hf34, hl34⟩ := app_int Gw33.out.v S33C.out rfl (by decide) 26
        have Gw34 : Hid (BgS Wd w34 b (.slice none 0 0) (.slice none 0 0) (.slice none 0 0) (.slice none 0 0) (.slice a32 1 c32) (.slice a33 1 c33) v34 ma [.pointer (some ⟨p, 0, none⟩)] [.int .i64 0] [.int .i64 0]) := Gw33.out.appV ho34 hf34 hl34
        obtain ⟨a34, c34, e34, _⟩ := ho34.shape
        rw [show ([] ++ [.int .i64 0] : List Value).length = 1 from rfl] at e34
        subst e34
        refine stp_run rfl rfl rfl rfl hr34 ?_
        have Gw34 : Hid (BgS Wd w34 b (.slice none 0 0) (.slice none 0 0) (.slice none 0 0) (.slice none 0 0) (.slice a32 1 c32) (.slice a33 1 c33) (.slice a34 1 c34) ma [.pointer (some ⟨p, 0, none⟩)] [.int .i64 0] [.int .i64 0]) := Gw34.out
        refine hKa.out _ _ (fun _ => SOK.out _ _ _ _ _ _ _ Gw34.out) ?_
        clear hKa Ka
        try simp only [Act.put, List.setIfInBounds_toArray, List.set_cons_zero, List.set_cons_succ]
        have hbox := Gw34.out.box
        have q0 : w34.cell? ⟨b, 0, none⟩ = some (.slice none 0 0) := by simp [World.cell?, hbox]
        have z0 : w34.frozen? ⟨b, 0, none⟩ = false := hfree hbox 0
        refine wpAnyL_one (i := 22) (by kernel_rfl) rfl (fun Ka hKa => ?_)
        go_simp
        refine hKa.out _ _ (fun _ => SOK.out _ _ _ _ _ _ _ Gw34.out) ?_
        clear hKa Ka
        try simp only [Act.put, List.setIfInBounds_toArray, List.set_cons_zero, List.set_cons_succ]
        refine wpAnyL_one (i := 23) (by kernel_rfl) rfl (fun Ka hKa => ?_)
        go_simp
        refine hKa.out _ _ (fun _ => SOK.out _ _ _ _ _ _ _ Gw34.out) ?_
        clear hKa Ka
        try simp only [Act.put, List.setIfInBounds_toArray, List.set_cons_zero, List.set_cons_succ]
        refine wpAnyL_one (i := 24) (by kernel_rfl) rfl (fun Ka hKa => ?_)
        go_simp
        refine hKa.out _ _ (fun h => absurd h (Bool.eq_false_iff.1 (by kernel_rfl))) ?_
        clear hKa Ka
        try simp only [Act.put, List.setIfInBounds_toArray, List.set_cons_zero, List.set_cons_succ]
        have hbox := vblk_set (i := 0) (.slice a32 1 c32) hbox
        have q3 : ((w34).setCell ⟨b, 0, none⟩ (.slice a32 1 c32)).cell? ⟨b, 3, none⟩ = some (.slice none 0 0) := by simp [World.cell?, hbox]
        have z3 : ((w34).setCell ⟨b, 0, none⟩ (.slice a32 1 c32)).frozen? ⟨b, 3, none⟩ = false := hfree hbox 3
        refine wpAnyL_one (i := 25) (by kernel_rfl) rfl (fun Ka hKa => ?_)
        go_simp
        refine hKa.out _ _ (fun h => absurd h (Bool.eq_false_iff.1 (by kernel_rfl))) ?_
        clear hKa Ka
        try simp only [Act.put, List.setIfInBounds_toArray, List.set_cons_zero, List.set_cons_succ]
        refine wpAnyL_one (i := 26) (by kernel_rfl) rfl (fun Ka hKa => ?_)
        go_simp
        refine hKa.out _ _ (fun h => absurd h (Bool.eq_false_iff.1 (by kernel_rfl))) ?_
        clear hKa Ka
        try simp only [Act.put, List.setIfInBounds_toArray, List.set_cons_zero, List.set_cons_succ]
        refine wpAnyL_one (i := 27) (by kernel_rfl) rfl (fun Ka hKa => ?_)
        go_simp
        refine hKa.out _ _ (fun h => absurd h (Bool.eq_false_iff.1 (by kernel_rfl))) ?_
        clear hKa Ka
        try simp only [Act.put, List.setIfInBounds_toArray, List.set_cons_zero, List.set_cons_succ]
        have hbox := vblk_set (i := 3) (.slice a33 1 c33) hbox
        have q4 : (((w34).setCell ⟨b, 0, none⟩ (.slice a32 1 c32)).setCell ⟨b, 3, none⟩ (.slice a33 1 c33)).cell? ⟨b, 4, none⟩ = some (.slice none 0 0) := by simp [World.cell?, hbox]
        have z4 : (((w34).setCell ⟨b, 0, none⟩ (.slice a32 1 c32)).setCell ⟨b, 3, none⟩ (.slice a33 1 c33)).frozen? ⟨b, 4, none⟩ = false := hfree hbox 4
        refine wpAnyL_one (i := 28) (by kernel_rfl) rfl (fun Ka hKa => ?_)
        go_simp
        refine hKa.out _ _ (fun h => absurd h (Bool.eq_false_iff.1 (by kernel_rfl))) ?_
        clear hKa Ka
        try simp only [Act.put, List.setIfInBounds_toArray, List.set_cons_zero, List.set_cons_succ]
        refine wpAnyL_one (i := 29) (by kernel_rfl) rfl (fun Ka hKa => ?_)
        go_simp
        refine hKa.out _ _ (fun h => absurd h (Bool.eq_false_iff.1 (by kernel_rfl))) ?_
        clear hKa Ka
        try simp only [Act.put, List.setIfInBounds_toArray, List.set_cons_zero, List.set_cons_succ]
        refine wpAnyL_one (i := 30) (by kernel_rfl) rfl (fun Ka hKa => ?_)
        go_simp
        refine hKa.out _ _ (fun h => absurd h (Bool.eq_false_iff.1 (by kernel_rfl))) ?_
        clear hKa Ka
        try simp only [Act.put, List.setIfInBounds_toArray, List.set_cons_zero, List.set_cons_succ]
        refine wpAnyL_done (by kernel_rfl) ?_ _
        have hF := FIN.out _ _ _ _ _ Gw34.out rfl
        generalize hWz : World.setCell _ _ _ = Wz
        first | rw [hWz] at hF | (simp only [List.nil_append, List.length_cons, List.length_nil] at hF; rw [hWz] at hF)
        have HF : Hid _ := hF
        clear hF hWz hbox q0 z0 q3 z3 q4 z4
        go_wp2
        rw [rounds_succ]
        go_wp2
        go_ret2
        obtain ⟨S, g, c0, gh, c1, h1, h2, h3, h4, h5, h6⟩ := HF.out
        rw [HMA.out]
        exact ⟨S, b, p, g, c0, gh, c1, ma, _, rfl, h1, h2, h3, h4, h5, h6⟩
  · go_simp
    obtain ⟨w35, hw35⟩ : ∃ W, Wd.alloc (.cells #[.int .i64 0] 3) = W := ⟨_, rfl⟩
    have b35 : Below Wd.heap.size Wd w35 := by rw [← hw35]; exact vone_new _ _
    have S35 : Hid (w35.heap[Wd.heap.size]? = some (.cells #[.int .i64 0] 3 (0, 0))) := by show _ = _; rw [← hw35]; exact heap_alloc_new _ _
    have L35 : Hid (Wd.heap.size ≤ Wd.heap.size) := HG0.out.low
    have Gw35 : Hid (BgS Wd w35 b (.slice none 0 0) (.slice none 0 0) (.slice none 0 0) (.slice none 0 0) (.slice none 0 0) (.slice none 0 0) (.slice none 0 0) ma [] [] []) := HG0.out.new b35
    rw [hw35]
    refine hKa.out _ _ (fun _ => SOK.out _ _ _ _ _ _ _ Gw35.out) ?_
    clear hKa Ka
    try simp only [Act.put, List.setIfInBounds_toArray, List.set_cons_zero, List.set_cons_succ]
    refine wpAnyL_two (i := 8) (j := 20) (by kernel_rfl) rfl rfl (fun Ka hKa => ?_) (fun Ka hKa => ?_)
    · go_simp
      obtain ⟨w36, hw36⟩ : ∃ W, w35.alloc (.cells #[.pointer (some ⟨p, 0, none⟩)] 51) = W := ⟨_, rfl⟩
      have b36 : Below w35.heap.size w35 w36 := by rw [← hw36]; exact vone_new _ _
      have S36 : Hid (w36.heap[w35.heap.size]? = some (.cells #[.pointer (some ⟨p, 0, none⟩)] 51 (0, 0))) := by show _ = _; rw [← hw36]; exact heap_alloc_new _ _
      have L36 : Hid (Wd.heap.size ≤ w35.heap.size) := Gw35.out.low
      have Gw36 : Hid (BgS Wd w36 b (.slice none 0 0) (.slice none 0 0) (.slice none 0 0) (.slice none 0 0) (.slice none 0 0) (.slice none 0 0) (.slice none 0 0) ma [] [] []) := Gw35.out.new b36
      have S36B : Hid (w36.heap[Wd.heap.size]? = some (.cells #[.int .i64 0] 3 (0, 0))) := (b36.block _ (vlt_blk S35.out)).trans S35.out
      rw [hw36]
      refine hKa.out _ _ (fun _ => SOK.out _ _ _ _ _ _ _ Gw36.out) ?_
      clear hKa Ka
      try simp only [Act.put, List.setIfInBounds_toArray, List.set_cons_zero, List.set_cons_succ]
      refine wpAnyL_two (i := 9) (j := 20) (by kernel_rfl) rfl rfl (fun Ka hKa => ?_) (fun Ka hKa => ?_)
      · obtain ⟨v37, w37, hr37, ho37, hf37, hl37⟩ := app_ptr Gw36.out.l S36.out rfl (by decide) 67
        have Gw37 : Hid (BgS Wd w37 b (.slice none 0 0) (.slice none 0 0) (.slice none 0 0) (.slice none 0 0) v37 (.slice none 0 0) (.slice none 0 0) ma [.pointer (some ⟨p, 0, none⟩)] [] []) := Gw36.out.appL ho37 hf37 hl37
        have S37B : Hid (w37.heap[Wd.heap.size]? = some (.cells #[.int .i64 0] 3 (0, 0))) := src_keep (W0 := Wd) S36B.out L35.out hf37 (fun _ h => by cases h)
        obtain ⟨a37, c37, e37, _⟩ := ho37.shape
        rw [show ([] ++ [.pointer (some ⟨p, 0, none⟩)] : List Value).length = 1 from rfl] at e37
        subst e37
        refine stp_run rfl rfl rfl rfl hr37 ?_
        have Gw37 : Hid (BgS Wd w37 b (.slice none 0 0) (.slice none 0 0) (.slice none 0 0) (.slice none 0 0) (.slice a37 1 c37) (.slice none 0 0) (.slice none 0 0) ma [.pointer (some ⟨p, 0, none⟩)] [] []) := Gw37.out
        refine hKa.out _ _ (fun _ => SOK.out _ _ _ _ _ _ _ Gw37.out) ?_
        clear hKa Ka
        try simp only [Act.put, List.setIfInBounds_toArray, List.set_cons_zero, List.set_cons_succ]
        refine wpAnyL_two (i := 15) (j := 20) (by kernel_rfl) rfl rfl (fun Ka hKa => ?_) (fun Ka hKa => ?_)
        · obtain ⟨v38, w38, hr38, ho38, hf38, hl38⟩ := app_int Gw37.out.h S37B.out rfl (by decide) 26
          have Gw38 : Hid (BgS Wd w38 b (.slice none 0 0) (.slice none 0 0) (.slice none 0 0) (.slice none 0 0) (.slice a37 1 c37) v38 (.slice none 0 0) ma [.pointer (some ⟨p, 0, none⟩)] [.int .i64 0] []) := Gw37.out.appH ho38 hf38 hl38
          obtain ⟨a38, c38, e38, _⟩ := ho38.shape
          rw [show ([] ++ [.int .i64 0] : List Value).length = 1 from rfl] at e38
          subst e38
          refine stp_run rfl rfl rfl rfl hr38 ?_
          have Gw38 : Hid (BgS Wd w38 b (.slice none 0 0) (.slice none 0 0) (.slice none 0 0) (.slice none 0 0) (.slice a37 1 c37) (.slice a38 1 c38) (.slice none 0 0) ma [.pointer (some ⟨p, 0, none⟩)] [.int .i64 0] []) := Gw38.out
          refine hKa.out _ _ (fun _ => SOK.out _ _ _ _ _ _ _ Gw38.out) ?_
          clear hKa Ka
          try simp only [Act.put, List.setIfInBounds_toArray, List.set_cons_zero, List.set_cons_succ]
          refine wpAnyL_one (i := 20) (by kernel_rfl) rfl (fun Ka hKa => ?_)
          go_simp
          obtain ⟨w39, hw39⟩ : ∃ W, w38.alloc (.cells #[.int .i64 0] 3) = W := ⟨_, rfl⟩
          have b39 : Below w38.heap.size w38 w39 := by rw [← hw39]; exact vone_new _ _
          have S39 : Hid (w39.heap[w38.heap.size]? = some (.cells #[.int .i64 0] 3 (0, 0))) := by show _ = _; rw [← hw39]; exact heap_alloc_new _ _
          have L39 : Hid (Wd.heap.size ≤ w38.heap.size) := Gw38.out.low
          have Gw39 : Hid (BgS Wd w39 b (.slice none 0 0) (.slice none 0 0) (.slice none 0 0) (.slice none 0 0) (.slice a37 1 c37) (.slice a38 1 c38) (.slice none 0 0) ma [.pointer (some ⟨p, 0, none⟩)] [.int .i64 0] []) := Gw38.out.new b39
          rw [hw39]
          refine hKa.out _ _ (fun _ => SOK.out _ _ _ _ _ _ _ Gw39.out) ?_
          clear hKa Ka
          try simp only [Act.put, List.setIfInBounds_toArray, List.set_cons_zero, List.set_cons_succ]
          refine wpAnyL_one (i := 21) (by kernel_rfl) rfl (fun Ka hKa => ?_)
          obtain ⟨v40, w40, hr40, ho40, hf40, hl40⟩ := app_int Gw39.out.v S39.out rfl (by decide) 26
          have Gw40 : Hid (BgS Wd w40 b (.slice none 0 0) (.slice none 0 0) (.slice none 0 0) (.slice none 0 0) (.slice a37 1 c37) (.slice a38 1 c38) v40 ma [.pointer (some ⟨p, 0, none⟩)] [.int .i64 0] [.int .i64 0]) := Gw39.out.appV ho40 hf40 hl40
          obtain ⟨a40, c40, e40, _⟩ := ho40.shape
          rw [show ([] ++ [.int .i64 0] : List Value).length = 1 from rfl] at e40
          subst e40
          refine stp_run rfl rfl rfl rfl hr40 ?_
          have Gw40 : Hid (BgS Wd w40 b (.slice none 0 0) (.slice none 0 0) (.slice none 0 0) (.slice none 0 0) (.slice a37 1 c37) (.slice a38 1 c38) (.slice a40 1 c40) ma [.pointer (some ⟨p, 0, none⟩)] [.int .i64 0] [.int .i64 0]) := Gw40.out
          refine hKa.out _ _ (fun _ => SOK.out _ _ _ _ _ _ _ Gw40.out) ?_
          clear hKa Ka
          try simp only [Act.put, List.setIfInBounds_toArray, List.set_cons_zero, List.set_cons_succ]
          have hbox := Gw40.out.box
          have q0 : w40.cell? ⟨b, 0, none⟩ = some (.slice none 0 0) := by simp [World.cell?, hbox]
          have z0 : w40.frozen? ⟨b, 0, none⟩ = false := hfree hbox 0
          refine wpAnyL_one (i := 22) (by kernel_rfl) rfl (fun Ka hKa => ?_)
          go_simp
          refine hKa.out _ _ (fun _ => SOK.out _ _ _ _ _ _ _ Gw40.out) ?_
          clear hKa Ka
          try simp only [Act.put, List.setIfInBounds_toArray, List.set_cons_zero, List.set_cons_succ]
          refine wpAnyL_one (i := 23) (by kernel_rfl) rfl (fun Ka hKa => ?_)
          go_simp
          refine hKa.out _ _ (fun _ => SOK.out _ _ _ _ _ _ _ Gw40.out) ?_
          clear hKa Ka
          try simp only [Act.put, List.setIfInBounds_toArray, List.set_cons_zero, List.set_cons_succ]
          refine wpAnyL_one (i := 24) (by kernel_rfl) rfl (fun Ka hKa => ?_)
          go_simp
          refine hKa.out _ _ (fun h => absurd h (Bool.eq_false_iff.1 (by kernel_rfl))) ?_
          clear hKa Ka
          try simp only [Act.put, List.setIfInBounds_toArray, List.set_cons_zero, List.set_cons_succ]
          have hbox := vblk_set (i := 0) (.slice a37 1 c37) hbox
          have q3 : ((w40).setCell ⟨b, 0, none⟩ (.slice a37 1 c37)).cell? ⟨b, 3, none⟩ = some (.slice none 0 0) := by simp [World.cell?, hbox]
          have z3 : ((w40).setCell ⟨b, 0, none⟩ (.slice a37 1 c37)).frozen? ⟨b, 3, none⟩ = false := hfree hbox 3
          refine wpAnyL_one (i := 25) (by kernel_rfl) rfl (fun Ka hKa => ?_)
          go_simp
          refine hKa.out _ _ (fun h => absurd h (Bool.eq_false_iff.1 (by kernel_rfl))) ?_
          clear hKa Ka
          try simp only [Act.put, List.setIfInBounds_toArray, List.set_cons_zero, List.set_cons_succ]
          refine wpAnyL_one (i := 26) (by kernel_rfl) rfl (fun Ka hKa => ?_)
          go_simp
          refine hKa.out _ _ (fun h => absurd h (Bool.eq_false_iff.1 (by kernel_rfl))) ?_
          clear hKa Ka
          try simp only [Act.put, List.setIfInBounds_toArray, List.set_cons_zero, List.set_cons_succ]
          refine wpAnyL_one (i := 27) (by kernel_rfl) rfl (fun Ka hKa => ?_)
          go_simp
          refine hKa.out _ _ (fun h => absurd h (Bool.eq_false_iff.1 (by kernel_rfl))) ?_
          clear hKa Ka
          try simp only [Act.put, List.setIfInBounds_toArray, List.set_cons_zero, List.set_cons_succ]
          have hbox := vblk_set (i := 3) (.slice a38 1 c38) hbox
          have q4 : (((w40).setCell ⟨b, 0, none⟩ (.slice a37 1 c37)).setCell ⟨b, 3, none⟩ (.slice a38 1 c38)).cell? ⟨b, 4, none⟩ = some (.slice none 0 0) := by simp [World.cell?, hbox]
          have z4 : (((w40).setCell ⟨b, 0, none⟩ (.slice a37 1 c37)).setCell ⟨b, 3, none⟩ (.slice a38 1 c38)).frozen? ⟨b, 4, none⟩ = false := hfree hbox 4
          refine wpAnyL_one (i := 28) (by kernel_rfl) rfl (fun Ka hKa => ?_)
          go_simp
          refine hKa.out _ _ (fun h => absurd h (Bool.eq_false_iff.1 (by kernel_rfl))) ?_
          clear hKa Ka
          try simp only [Act.put, List.setIfInBounds_toArray, List.set_cons_zero, List.set_cons_succ]
          refine wpAnyL_one (i := 29) (by kernel_rfl) rfl (fun Ka hKa => ?_)
          go_simp
          refine hKa.out _ _ (fun h => absurd h (Bool.eq_false_iff.1 (by kernel_rfl))) ?_
          clear hKa Ka
          try simp only [Act.put, List.setIfInBounds_toArray, List.set_cons_zero, List.set_cons_succ]
          refine wpAnyL_one (i := 30) (by kernel_rfl) rfl (fun Ka hKa => ?_)
          go_simp
          refine hKa.out _ _ (fun h => absurd h (Bool.eq_false_iff.1 (by kernel_rfl))) ?_
          clear hKa Ka
          try simp only [Act.put, List.setIfInBounds_toArray, List.set_cons_zero, List.set_cons_succ]
          refine wpAnyL_done (by kernel_rfl) ?_ _
          have hF := FIN.out _ _ _ _ _ Gw40.out rfl
          generalize hWz : World.setCell _ _ _ = Wz
          first | rw [hWz] at hF | (simp only [List.nil_append, List.length_cons, List.length_nil] at hF; rw [hWz] at hF)
          have HF : Hid _ := hF
          clear hF hWz hbox q0 z0 q3 z3 q4 z4
          go_wp2
          rw [rounds_succ]
          go_wp2
          go_ret2
          obtain ⟨S, g, c0, gh, c1, h1, h2, h3, h4, h5, h6⟩ := HF.out
          rw [HMA.out]
          exact ⟨S, b, p, g, c0, gh, c1, ma, _, rfl, h1, h2, h3, h4, h5, h6⟩
        · go_simp
          obtain ⟨w41, hw41⟩ : ∃ W, w37.alloc (.cells #[.int .i64 0] 3) = W := ⟨_, rfl⟩
          have b41 : Below w37.heap.size w37 w41 := by rw [← hw41]; exact vone_new _ _
          have S41 : Hid (w41.heap[w37.heap.size]? = some (.cells #[.int .i64 0] 3 (0, 0))) := by show _ = _; rw [← hw41]; exact heap_alloc_new _ _
          have L41 : Hid (Wd.heap.size ≤ w37.heap.size) := Gw37.out.low
          have Gw41 : Hid (BgS Wd w41 b (.slice none 0 0) (.slice none 0 0) (.slice none 0 0) (.slice none 0 0) (.slice a37 1 c37) (.slice none 0 0) (.slice none 0 0) ma [.pointer (some ⟨p, 0, none⟩)] [] []) := Gw37.out.new b41
          have S41B : Hid (w41.heap[Wd.heap.size]? = some (.cells #[.int .i64 0] 3 (0, 0))) := (b41.block _ (vlt_blk S37B.out)).trans S37B.out
          rw [hw41]
          refine hKa.out _ _ (fun _ => SOK.out _ _ _ _ _ _ _ Gw41.out) ?_
          clear hKa Ka
          try simp only [Act.put, List.setIfInBounds_toArray, List.set_cons_zero, List.set_cons_succ]
          refine wpAnyL_one (i := 15) (by kernel_rfl) rfl (fun Ka hKa => ?_)
          obtain ⟨v42, w42, hr42, ho42, hf42, hl42⟩ := app_int Gw41.out.h S41B.out rfl (by decide) 26
          have Gw42 : Hid (BgS Wd w42 b (.slice none 0 0) (.slice none 0 0) (.slice none 0 0) (.slice none 0 0) (.slice a37 1 c37) v42 (.slice none 0 0) ma [.pointer (some ⟨p, 0, none⟩)] [.int .i64 0] []) := Gw41.out.appH ho42 hf42 hl42
          have S42C : Hid (w42.heap[w37.heap.size]? = some (.cells #[.int .i64 0] 3 (0, 0))) := src_keep (W0 := Wd) S41.out L41.out hf42 (fun _ h => by cases h)
          obtain ⟨a42, c42, e42, _⟩ := ho42.shape
          rw [show ([] ++ [.int .i64 0] : List Value).length = 1 from rfl] at e42
          subst e42
          refine stp_run rfl rfl rfl rfl hr42 ?_
          have Gw42 : Hid (BgS Wd w42 b (.slice none 0 0) (.slice none 0 0) (.slice none 0 0) (.slice none 0 0) (.slice a37 1 c37) (.slice a42 1 c42) (.slice none 0 0) ma [.pointer (some ⟨p, 0, none⟩)] [.int .i64 0] []) := Gw42.out
          refine hKa.out _ _ (fun _ => SOK.out _ _ _ _ _ _ _ Gw42.out) ?_
          clear hKa Ka
          try simp only [Act.put, List.setIfInBounds_toArray, List.set_cons_zero, List.set_cons_succ]
          refine wpAnyL_one (i := 21) (by kernel_rfl) rfl (fun Ka hKa => ?_)
          obtain ⟨v43, w43, hr43, ho43, hf43, hl43⟩ := app_int Gw42.out.v S42C.out rfl (by decide) 26
          have Gw43 : Hid (BgS Wd w43 b (.slice none 0 0) (.slice none 0 0) (.slice none 0 0) (.slice none 0 0) (.slice a37 1 c37) (.slice a42 1 c42) v43 ma [.pointer (some ⟨p, 0, none⟩)] [.int .i64 0] [.int .i64 0]) := Gw42.out.appV ho43 hf43 hl43
          obtain ⟨a43, c43, e43, _⟩ := ho43.shape
          rw [show ([] ++ [.int .i64 0] : List Value).length = 1 from rfl] at e43
          subst e43
          refine stp_run rfl rfl rfl rfl hr43 ?_
          have Gw43 : Hid (BgS Wd w43 b (.slice none 0 0) (.slice none 0 0) (.slice none 0 0) (.slice none 0 0) (.slice a37 1 c37) (.slice a42 1 c42) (.slice a43 1 c43) ma [.pointer (some ⟨p, 0, none⟩)] [.int .i64 0] [.int .i64 0]) := Gw43.out
          refine hKa.out _ _ (fun _ => SOK.out _ _ _ _ _ _ _ Gw43.out) ?_
          clear hKa Ka
          try simp only [Act.put, List.setIfInBounds_toArray, List.set_cons_zero, List.set_cons_succ]
          have hbox := Gw43.out.box
          have q0 : w43.cell? ⟨b, 0, none⟩ = some (.slice none 0 0) := by simp [World.cell?, hbox]
          have z0 : w43.frozen? ⟨b, 0, none⟩ = false := hfree hbox 0
          refine wpAnyL_one (i := 22) (by kernel_rfl) rfl (fun Ka hKa => ?_)
          go_simp
          refine hKa.out _ _ (fun _ => SOK.out _ _ _ _ _ _ _ Gw43.out) ?_
          clear hKa Ka
          try simp only [Act.put, List.setIfInBounds_toArray, List.set_cons_zero, List.set_cons_succ]
          refine wpAnyL_one (i := 23) (by kernel_rfl) rfl (fun Ka hKa => ?_)
          go_simp
          refine hKa.out _ _ (fun _ => SOK.out _ _ _ _ _ _ _ Gw43.out) ?_
          clear hKa Ka
          try simp only [Act.put, List.setIfInBounds_toArray, List.set_cons_zero, List.set_cons_succ]
          refine wpAnyL_one (i := 24) (by kernel_rfl) rfl (fun Ka hKa => ?_)
          go_simp
          refine hKa.out _ _ (fun h => absurd h (Bool.eq_false_iff.1 (by kernel_rfl))) ?_
          clear hKa Ka
          try simp only [Act.put, List.setIfInBounds_toArray, List.set_cons_zero, List.set_cons_succ]
          have hbox := vblk_set (i := 0) (.slice a37 1 c37) hbox
          have q3 : ((w43).setCell ⟨b, 0, none⟩ (.slice a37 1 c37)).cell? ⟨b, 3, none⟩ = some (.slice none 0 0) := by simp [World.cell?, hbox]
          have z3 : ((w43).setCell ⟨b, 0, none⟩ (.slice a37 1 c37)).frozen? ⟨b, 3, none⟩ = false := hfree hbox 3
          refine wpAnyL_one (i := 25) (by kernel_rfl) rfl (fun Ka hKa => ?_)
          go_simp
          refine hKa.out _ _ (fun h => absurd h (Bool.eq_false_iff.1 (by kernel_rfl))) ?_
          clear hKa Ka
          try simp only [Act.put, List.setIfInBounds_toArray, List.set_cons_zero, List.set_cons_succ]
          refine wpAnyL_one (i := 26) (by kernel_rfl) rfl (fun Ka hKa => ?_)
          go_simp
          refine hKa.out _ _ (fun h => absurd h (Bool.eq_false_iff.1 (by kernel_rfl))) ?_
          clear hKa Ka
          try simp only [Act.put, List.setIfInBounds_toArray, List.set_cons_zero, List.set_cons_succ]
          refine wpAnyL_one (i := 27) (by kernel_rfl) rfl (fun Ka hKa => ?_)
          go_simp
          refine hKa.out _ _ (fun h => absurd h (Bool.eq_false_iff.1 (by kernel_rfl))) ?_
          clear hKa Ka
          try simp only [Act.put, List.setIfInBounds_toArray, List.set_cons_zero, List.set_cons_succ]
          have hbox := vblk_set (i := 3) (.slice a42 1 c42) hbox
          have q4 : (((w43).setCell ⟨b, 0, none⟩ (.slice a37 1 c37)).setCell ⟨b, 3, none⟩ (.slice a42 1 c42)).cell? ⟨b, 4, none⟩ = some (.slice none 0 0) := by simp [World.cell?, hbox]
          have z4 : (((w43).setCell ⟨b, 0, none⟩ (.slice a37 1 c37)).setCell ⟨b, 3, none⟩ (.slice a42 1 c42)).frozen? ⟨b, 4, none⟩ = false := hfree hbox 4
          refine wpAnyL_one (i := 28) (by kernel_rfl) rfl (fun Ka hKa => ?_)
          go_simp
          refine hKa.out _ _ (fun h => absurd h (Bool.eq_false_iff.1 (by kernel_rfl))) ?_
          clear hKa Ka
          try simp only [Act.put, List.setIfInBounds_toArray, List.set_cons_zero, List.set_cons_succ]
          refine wpAnyL_one (i := 29) (by kernel_rfl) rfl (fun Ka hKa => ?_)
          go_simp
          refine hKa.out _ _ (fun h => absurd h (Bool.eq_false_iff.1 (by kernel_rfl))) ?_
          clear hKa Ka
          try simp only [Act.put, List.setIfInBounds_toArray, List.set_cons_zero, List.set_cons_succ]
          refine wpAnyL_one (i := 30) (by kernel_rfl) rfl (fun Ka hKa => ?_)
          go_simp
          refine hKa.out _ _ (fun h => absurd h (Bool.eq_false_iff.1 (by kernel_rfl))) ?_
          clear hKa Ka
          try simp only [Act.put, List.setIfInBounds_toArray, List.set_cons_zero, List.set_cons_succ]
          refine wpAnyL_done (by kernel_rfl) ?_ _
          have hF := FIN.out _ _ _ _ _ Gw43.out rfl
          generalize hWz : World.setCell _ _ _ = Wz
          first | rw [hWz] at hF | (simp only [List.nil_append, List.length_cons, List.length_nil] at hF; rw [hWz] at hF)
          have HF : Hid _ := hF
          clear hF hWz hbox q0 z0 q3 z3 q4 z4
          go_wp2
          rw [rounds_succ]
          go_wp2
          go_ret2
          obtain ⟨S, g, c0, gh, c1, h1, h2, h3, h4, h5, h6⟩ := HF.out
          rw [HMA.out]
          exact ⟨S, b, p, g, c0, gh, c1, ma, _, rfl, h1, h2, h3, h4, h5, h6⟩
      · go_simp
        obtain ⟨w44, hw44⟩ : ∃ W, w36.alloc (.cells #[.int .i64 0] 3) = W := ⟨_, rfl⟩
        have b44 : Below w36.heap.size w36 w44 := by rw [← hw44]; exact vone_new _ _
        have S44 : Hid (w44.heap[w36.heap.size]? = some (.cells #[.int .i64 0] 3 (0, 0))) := by show _ = _; rw [← hw44]; exact heap_alloc_new _ _
        have L44 : Hid (Wd.heap.size ≤ w36.heap.size) := Gw36.out.low
        have Gw44 : Hid (BgS Wd w44 b (.slice none 0 0) (.slice none 0 0) (.slice none 0 0) (.slice none 0 0) (.slice none 0 0) (.slice none 0 0) (.slice none 0 0) ma [] [] []) := Gw36.out.new b44
        have S44B : Hid (w44.heap[Wd.heap.size]? = some (.cells #[.int .i64 0] 3 (0, 0))) := (b44.block _ (vlt_blk S36B.out)).trans S36B.out
        have S44A : Hid (w44.heap[w35.heap.size]? = some (.cells #[.pointer (some ⟨p, 0, none⟩)] 51 (0, 0))) := (b44.block _ (vlt_blk S36.out)).trans S36.out
        rw [hw44]
        refine hKa.out _ _ (fun _ => SOK.out _ _ _ _ _ _ _ Gw44.out) ?_
        clear hKa Ka
        try simp only [Act.put, List.setIfInBounds_toArray, List.set_cons_zero, List.set_cons_succ]
        refine wpAnyL_one (i := 9) (by kernel_rfl) rfl (fun Ka hKa => ?_)
        obtain ⟨v45, w45, hr45, ho45, hf45, hl45⟩ := app_ptr Gw44.out.l S44A.out rfl (by decide) 67
        have Gw45 : Hid (BgS Wd w45 b (.slice none 0 0) (.slice none 0 0) (.slice none 0 0) (.slice none 0 0) v45 (.slice none 0 0) (.slice none 0 0) ma [.pointer (some ⟨p, 0, none⟩)] [] []) := Gw44.out.appL ho45 hf45 hl45
        have S45B : Hid (w45.heap[Wd.heap.size]? = some (.cells #[.int .i64 0] 3 (0, 0))) := src_keep (W0 := Wd) S44B.out L35.out hf45 (fun _ h => by cases h)
        have S45C : Hid (w45.heap[w36.heap.size]? = some (.cells #[.int .i64 0] 3 (0, 0))) := src_keep (W0 := Wd) S44.out L44.out hf45 (fun _ h => by cases h)
        obtain ⟨a45, c45, e45, _⟩ := ho45.shape
        rw [show ([] ++ [.pointer (some ⟨p, 0, none⟩)] : List Value).length = 1 from rfl] at e45
        subst e45
        refine stp_run rfl rfl rfl rfl hr45 ?_
        have Gw45 : Hid (BgS Wd w45 b (.slice none 0 0) (.slice none 0 0) (.slice none 0 0) (.slice none 0 0) (.slice a45 1 c45) (.slice none 0 0) (.slice none 0 0) ma [.pointer (some ⟨p, 0, none⟩)] [] []) := Gw45.out
        refine hKa.out _ _ (fun _ => SOK.out _ _ _ _ _ _ _ Gw45.out) ?_
        clear hKa Ka
        try simp only [Act.put, List.setIfInBounds_toArray, List.set_cons_zero, List.set_cons_succ]
        refine wpAnyL_one (i := 15) (by kernel_rfl) rfl (fun Ka hKa => ?_)
        obtain ⟨v46, w46, hr46, ho46, hf46, hl46⟩ := app_int Gw45.out.h S45B.out rfl (by decide) 26
        have Gw46 : Hid (BgS Wd w46 b (.slice none 0 0) (.slice none 0 0) (.slice none 0 0) (.slice none 0 0) (.slice a45 1 c45) v46 (.slice none 0 0) ma [.pointer (some ⟨p, 0, none⟩)] [.int .i64 0] []) := Gw45.out.appH ho46 hf46 hl46
        have S46C : Hid (w46.heap[w36.heap.size]? = some (.cells #[.int .i64 0] 3 (0, 0))) := src_keep (W0 := Wd) S45C.out L44.out hf46 (fun _ h => by cases h)
        obtain ⟨a46, c46, e46, _⟩ := ho46.shape
        rw [show ([] ++ [.int .i64 0] : List Value).length = 1 from rfl] at e46
        subst e46
        refine stp_run rfl rfl rfl rfl hr46 ?_
        have Gw46 : Hid (BgS Wd w46 b (.slice none 0 0) (.slice none 0 0) (.slice none 0 0) (.slice none 0 0) (.slice a45 1 c45) (.slice a46 1 c46) (.slice none 0 0) ma [.pointer (some ⟨p, 0, none⟩)] [.int .i64 0] []) := Gw46.out
        refine hKa.out _ _ (fun _ => SOK.out _ _ _ _ _ _ _ Gw46.out) ?_
        clear hKa Ka
        try simp only [Act.put, List.setIfInBounds_toArray, List.set_cons_zero, List.set_cons_succ]
        refine wpAnyL_one (i := 21) (by kernel_rfl) rfl (fun Ka hKa => ?_)
        obtain ⟨v47, w47, hr47, ho47, hf47, hl47⟩ := app_int Gw46.out.v S46C.out rfl (by decide) 26
        have Gw47 : Hid (BgS Wd w47 b (.slice none 0 0) (.slice none 0 0) (.slice none 0 0) (.slice none 0 0) (.slice a45 1 c45) (.slice a46 1 c46) v47 ma [.pointer (some ⟨p, 0, none⟩)] [.int .i64 0] [.int .i64 0]) := Gw46.out.appV ho47 hf47 hl47
        obtain ⟨a47, c47, e47, _⟩ := ho47.shape
        rw [show ([] ++ [.int .i64 0] : List Value).length = 1 from rfl] at e47
        subst e47
        refine stp_run rfl rfl rfl rfl hr47 ?_
        have Gw47 : Hid (BgS Wd w47 b (.slice none 0 0) (.slice none 0 0) (.slice none 0 0) (.slice none 0 0) (.slice a45 1 c45) (.slice a46 1 c46) (.slice a47 1 c47) ma [.pointer (some ⟨p, 0, none⟩)] [.int .i64 0] [.int .i64 0]) := Gw47.out
        refine hKa.out _ _ (fun _ => SOK.out _ _ _ _ _ _ _ Gw47.out) ?_
        clear hKa Ka
        try simp only [Act.put, List.setIfInBounds_toArray, List.set_cons_zero, List.set_cons_succ]
        have hbox := Gw47.out.box
        have q0 : w47.cell? ⟨b, 0, none⟩ = some (.slice none 0 0) := by simp [World.cell?, hbox]
        have z0 : w47.frozen? ⟨b, 0, none⟩ = false := hfree hbox 0
        refine wpAnyL_one (i := 22) (by kernel_rfl) rfl (fun Ka hKa => ?_)
        go_simp
        refine hKa.out _ _ (fun _ => SOK.out _ _ _ _ _ _ _ Gw47.out) ?_
        clear hKa Ka
        try simp only [Act.put, List.setIfInBounds_toArray, List.set_cons_zero, List.set_cons_succ]
        refine wpAnyL_one (i := 23) (by kernel_rfl) rfl (fun Ka hKa => ?_)
        go_simp
        refine hKa.out _ _ (fun _ => SOK.out _ _ _ _ _ _ _ Gw47.out) ?_
        clear hKa Ka
        try simp only [Act.put, List.setIfInBounds_toArray, List.set_cons_zero, List.set_cons_succ]
        refine wpAnyL_one (i := 24) (by kernel_rfl) rfl (fun Ka hKa => ?_)
        go_simp
        refine hKa.out _ _ (fun h => absurd h (Bool.eq_false_iff.1 (by kernel_rfl))) ?_
        clear hKa Ka
        try simp only [Act.put, List.setIfInBounds_toArray, List.set_cons_zero, List.set_cons_succ]
        have hbox := vblk_set (i := 0) (.slice a45 1 c45) hbox
        have q3 : ((w47).setCell ⟨b, 0, none⟩ (.slice a45 1 c45)).cell? ⟨b, 3, none⟩ = some (.slice none 0 0) := by simp [World.cell?, hbox]
        have z3 : ((w47).setCell ⟨b, 0, none⟩ (.slice a45 1 c45)).frozen? ⟨b, 3, none⟩ = false := hfree hbox 3
        refine wpAnyL_one (i := 25) (by kernel_rfl) rfl (fun Ka hKa => ?_)
        go_simp
        refine hKa.out _ _ (fun h => absurd h (Bool.eq_false_iff.1 (by kernel_rfl))) ?_
        clear hKa Ka
        try simp only [Act.put, List.setIfInBounds_toArray, List.set_cons_zero, List.set_cons_succ]
        refine wpAnyL_one (i := 26) (by kernel_rfl) rfl (fun Ka hKa => ?_)
        go_simp
        refine hKa.out _ _ (fun h => absurd h (Bool.eq_false_iff.1 (by kernel_rfl))) ?_
        clear hKa Ka
        try simp only [Act.put, List.setIfInBounds_toArray, List.set_cons_zero, List.set_cons_succ]
        refine wpAnyL_one (i := 27) (by kernel_rfl) rfl (fun Ka hKa => ?_)
        go_simp
        refine hKa.out _ _ (fun h => absurd h (Bool.eq_false_iff.1 (by kernel_rfl))) ?_
        clear hKa Ka
        try simp only [Act.put, List.setIfInBounds_toArray, List.set_cons_zero, List.set_cons_succ]
        have hbox := vblk_set (i := 3) (.slice a46 1 c46) hbox
        have q4 : (((w47).setCell ⟨b, 0, none⟩ (.slice a45 1 c45)).setCell ⟨b, 3, none⟩ (.slice a46 1 c46)).cell? ⟨b, 4, none⟩ = some (.slice none 0 0) := by simp [World.cell?, hbox]
        have z4 : (((w47).setCell ⟨b, 0, none⟩ (.slice a45 1 c45)).setCell ⟨b, 3, none⟩ (.slice a46 1 c46)).frozen? ⟨b, 4, none⟩ = false := hfree hbox 4
        refine wpAnyL_one (i := 28) (by kernel_rfl) rfl (fun Ka hKa => ?_)
        go_simp
        refine hKa.out _ _ (fun h => absurd h (Bool.eq_false_iff.1 (by kernel_rfl))) ?_
        clear hKa Ka
        try simp only [Act.put, List.setIfInBounds_toArray, List.set_cons_zero, List.set_cons_succ]
        refine wpAnyL_one (i := 29) (by kernel_rfl) rfl (fun Ka hKa => ?_)
        go_simp
        refine hKa.out _ _ (fun h => absurd h (Bool.eq_false_iff.1 (by kernel_rfl))) ?_
        clear hKa Ka
        try simp only [Act.put, List.setIfInBounds_toArray, List.set_cons_zero, List.set_cons_succ]
        refine wpAnyL_one (i := 30) (by kernel_rfl) rfl (fun Ka hKa => ?_)
        go_simp
        refine hKa.out _ _ (fun h => absurd h (Bool.eq_false_iff.1 (by kernel_rfl))) ?_
        clear hKa Ka
        try simp only [Act.put, List.setIfInBounds_toArray, List.set_cons_zero, List.set_cons_succ]
        refine wpAnyL_done (by kernel_rfl) ?_ _
        have hF := FIN.out _ _ _ _ _ Gw47.out rfl
        generalize hWz : World.setCell _ _ _ = Wz
        first | rw [hWz] at hF | (simp only [List.nil_append, List.length_cons, List.length_nil] at hF; rw [hWz] at hF)
        have HF : Hid _ := hF
        clear hF hWz hbox q0 z0 q3 z3 q4 z4
        go_wp2
        rw [rounds_succ]
        go_wp2
        go_ret2
        obtain ⟨S, g, c0, gh, c1, h1, h2, h3, h4, h5, h6⟩ := HF.out
        rw [HMA.out]
        exact ⟨S, b, p, g, c0, gh, c1, ma, _, rfl, h1, h2, h3, h4, h5, h6⟩
    · go_simp
      obtain ⟨w48, hw48⟩ : ∃ W, w35.alloc (.cells #[.int .i64 0] 3) = W := ⟨_, rfl⟩
      have b48 : Below w35.heap.size w35 w48 := by rw [← hw48]; exact vone_new _ _
      have S48 : Hid (w48.heap[w35.heap.size]? = some (.cells #[.int .i64 0] 3 (0, 0))) := by show _ = _; rw [← hw48]; exact heap_alloc_new _ _
      have L48 : Hid (Wd.heap.size ≤ w35.heap.size) := Gw35.out.low
      have Gw48 : Hid (BgS Wd w48 b (.slice none 0 0) (.slice none 0 0) (.slice none 0 0) (.slice none 0 0) (.slice none 0 0) (.slice none 0 0) (.slice none 0 0) ma [] [] []) := Gw35.out.new b48
      have S48B : Hid (w48.heap[Wd.heap.size]? = some (.cells #[.int .i64 0] 3 (0, 0))) := (b48.block _ (vlt_blk S35.out)).trans S35.out
      rw [hw48]
      refine hKa.out _ _ (fun _ => SOK.out _ _ _ _ _ _ _ Gw48.out) ?_
      clear hKa Ka
      try simp only [Act.put, List.setIfInBounds_toArray, List.set_cons_zero, List.set_cons_succ]
      refine wpAnyL_one (i := 8) (by kernel_rfl) rfl (fun Ka hKa => ?_)
      go_simp
      obtain ⟨w49, hw49⟩ : ∃ W, w48.alloc (.cells #[.pointer (some ⟨p, 0, none⟩)] 51) = W := ⟨_, rfl⟩
      have b49 : Below w48.heap.size w48 w49 := by rw [← hw49]; exact vone_new _ _
      have S49 : Hid (w49.heap[w48.heap.size]? = some (.cells #[.pointer (some ⟨p, 0, none⟩)] 51 (0, 0))) := by show _ = _; rw [← hw49]; exact heap_alloc_new _ _
      have L49 : Hid (Wd.heap.size ≤ w48.heap.size) := Gw48.out.low
      have Gw49 : Hid (BgS Wd w49 b (.slice none 0 0) (.slice none 0 0) (.slice none 0 0) (.slice none 0 0) (.slice none 0 0) (.slice none 0 0) (.slice none 0 0) ma [] [] []) := Gw48.out.new b49
      have S49B : Hid (w49.heap[Wd.heap.size]? = some (.cells #[.int .i64 0] 3 (0, 0))) := (b49.block _ (vlt_blk S48B.out)).trans S48B.out
      have S49C : Hid (w49.heap[w35.heap.size]? = some (.cells #[.int .i64 0] 3 (0, 0))) := (b49.block _ (vlt_blk S48.out)).trans S48.out
      rw [hw49]
      refine hKa.out _ _ (fun _ => SOK.out _ _ _ _ _ _ _ Gw49.out) ?_
      clear hKa Ka
      try simp only [Act.put, List.setIfInBounds_toArray, List.set_cons_zero, List.set_cons_succ]
      refine wpAnyL_one (i := 9) (by kernel_rfl) rfl (fun Ka hKa => ?_)
      obtain ⟨v50, w50, hr50, ho50, hf50, hl50⟩ := app_ptr Gw49.out.l S49.out rfl (by decide) 67
      have Gw50 : Hid (BgS Wd w50 b (.slice none 0 0) (.slice none 0 0) (.slice none 0 0) (.slice none 0 0) v50 (.slice none 0 0) (.slice none 0 0) ma [.pointer (some ⟨p, 0, none⟩)] [] []) := Gw49.out.appL ho50 hf50 hl50
      have S50B : Hid (w50.heap[Wd.heap.size]? = some (.cells #[.int .i64 0] 3 (0, 0))) := src_keep (W0 := Wd) S49B.out L35.out hf50 (fun _ h => by cases h)
      have S50C : Hid (w50.heap[w35.heap.size]? = some (.cells #[.int .i64 0] 3 (0, 0))) := src_keep (W0 := Wd) S49C.out L48.out hf50 (fun _ h => by cases h)
      obtain ⟨a50, c50, e50, _⟩ := ho50.shape
      rw [show ([] ++ [.pointer (some ⟨p, 0, none⟩)] : List Value).length = 1 from rfl] at e50
      subst e50
      refine stp_run rfl rfl rfl rfl hr50 ?_
      have Gw50 : Hid (BgS Wd w50 b (.slice none 0 0) (.slice none 0 0) (.slice none 0 0) (.slice none 0 0) (.slice a50 1 c50) (.slice none 0 0) (.slice none 0 0) ma [.pointer (some ⟨p, 0, none⟩)] [] []) := Gw50.out
      refine hKa.out _ _ (fun _ => SOK.out _ _ _ _ _ _ _ Gw50.out) ?_
      clear hKa Ka
      try simp only [Act.put, List.setIfInBounds_toArray, List.set_cons_zero, List.set_cons_succ]
      refine wpAnyL_one (i := 15) (by kernel_rfl) rfl (fun Ka hKa => ?_)
      obtain ⟨v51, w51, hr51, ho51, hf51, hl51⟩ := app_int Gw50.out.h S50B.out rfl (by decide) 26
      have Gw51 : Hid (BgS Wd w51 b (.slice none 0 0) (.slice none 0 0) (.slice none 0 0) (.slice none 0 0) (.slice a50 1 c50) v51 (.slice none 0 0) ma [.pointer (some ⟨p, 0, none⟩)] [.int .i64 0] []) := Gw50.out.appH ho51 hf51 hl51
      have S51C : Hid (w51.heap[w35.heap.size]? = some (.cells #[.int .i64 0] 3 (0, 0))) := src_keep (W0 := Wd) S50C.out L48.out hf51 (fun _ h => by cases h)
      obtain ⟨a51, c51, e51, _⟩ := ho51.shape
      rw [show ([] ++ [.int .i64 0] : List Value).length = 1 from rfl] at e51
      subst e51
      refine stp_run rfl rfl rfl rfl hr51 ?_
      have Gw51 : Hid (BgS Wd w51 b (.slice none 0 0) (.slice none 0 0) (.slice none 0 0) (.slice none 0 0) (.slice a50 1 c50) (.slice a51 1 c51) (.slice none 0 0) ma [.pointer (some ⟨p, 0, none⟩)] [.int .i64 0] []) := Gw51.out
      refine hKa.out _ _ (fun _ => SOK.out _ _ _ _ _ _ _ Gw51.out) ?_
      clear hKa Ka
      try simp only [Act.put, List.setIfInBounds_toArray, List.set_cons_zero, List.set_cons_succ]
      refine wpAnyL_one (i := 21) (by kernel_rfl) rfl (fun Ka hKa => ?_)
      obtain ⟨v52, w52, hr52, ho52, hf52, hl52⟩ := app_int Gw51.out.v S51C.out rfl (by decide) 26
      have Gw52 : Hid (BgS Wd w52 b (.slice none 0 0) (.slice none 0 0) (.slice none 0 0) (.slice none 0 0) (.slice a50 1 c50) (.slice a51 1 c51) v52 ma [.pointer (some ⟨p, 0, none⟩)] [.int .i64 0] [.int .i64 0]) := Gw51.out.appV ho52 hf52 hl52
      obtain ⟨a52, c52, e52, _⟩ := ho52.shape
      rw [show ([] ++ [.int .i64 0] : List Value).length = 1 from rfl] at e52
      subst e52
      refine stp_run rfl rfl rfl rfl hr52 ?_
      have Gw52 : Hid (BgS Wd w52 b (.slice none 0 0) (.slice none 0 0) (.slice none 0 0) (.slice none 0 0) (.slice a50 1 c50) (.slice a51 1 c51) (.slice a52 1 c52) ma [.pointer (some ⟨p, 0, none⟩)] [.int .i64 0] [.int .i64 0]) := Gw52.out
      refine hKa.out _ _ (fun _ => SOK.out _ _ _ _ _ _ _ Gw52.out) ?_
      clear hKa Ka
      try simp only [Act.put, List.setIfInBounds_toArray, List.set_cons_zero, List.set_cons_succ]
      have hbox := Gw52.out.box
      have q0 : w52.cell? ⟨b, 0, none⟩ = some (.slice none 0 0) := by simp [World.cell?, hbox]
      have z0 : w52.frozen? ⟨b, 0, none⟩ = false := hfree hbox 0
      refine wpAnyL_one (i := 22) (by kernel_rfl) rfl (fun Ka hKa => ?_)
      go_simp
      refine hKa.out _ _ (fun _ => SOK.out _ _ _ _ _ _ _ Gw52.out) ?_
      clear hKa Ka
      try simp only [Act.put, List.setIfInBounds_toArray, List.set_cons_zero, List.set_cons_succ]
      refine wpAnyL_one (i := 23) (by kernel_rfl) rfl (fun Ka hKa => ?_)
      go_simp
      refine hKa.out _ _ (fun _ => SOK.out _ _ _ _ _ _ _ Gw52.out) ?_
      clear hKa Ka
      try simp only [Act.put, List.setIfInBounds_toArray, List.set_cons_zero, List.set_cons_succ]
      refine wpAnyL_one (i := 24) (by kernel_rfl) rfl (fun Ka hKa => ?_)
      go_simp
      refine hKa.out _ _ (fun h => absurd h (Bool.eq_false_iff.1 (by kernel_rfl))) ?_
      clear hKa Ka
      try simp only [Act.put, List.setIfInBounds_toArray, List.set_cons_zero, List.set_cons_succ]
      have hbox := vblk_set (i := 0) (.slice a50 1 c50) hbox
      have q3 : ((w52).setCell ⟨b, 0, none⟩ (.slice a50 1 c50)).cell? ⟨b, 3, none⟩ = some (.slice none 0 0) := by simp [World.cell?, hbox]
      have z3 : ((w52).setCell ⟨b, 0, none⟩ (.slice a50 1 c50)).frozen? ⟨b, 3, none⟩ = false := hfree hbox 3
      refine wpAnyL_one (i := 25) (by kernel_rfl) rfl (fun Ka hKa => ?_)
      go_simp
      refine hKa.out _ _ (fun h => absurd h (Bool.eq_false_iff.1 (by kernel_rfl))) ?_
      clear hKa Ka
      try simp only [Act.put, List.setIfInBounds_toArray, List.set_cons_zero, List.set_cons_succ]
      refine wpAnyL_one (i := 26) (by kernel_rfl) rfl (fun Ka hKa => ?_)
      go_simp
      refine hKa.out _ _ (fun h => absurd h (Bool.eq_false_iff.1 (by kernel_rfl))) ?_
      clear hKa Ka
      try simp only [Act.put, List.setIfInBounds_toArray, List.set_cons_zero, List.set_cons_succ]
      refine wpAnyL_one (i := 27) (by kernel_rfl) rfl (fun Ka hKa => ?_)
      go_simp
      refine hKa.out _ _ (fun h => absurd h (Bool.eq_false_iff.1 (by kernel_rfl))) ?_
      clear hKa Ka
      try simp only [Act.put, List.setIfInBounds_toArray, List.set_cons_zero, List.set_cons_succ]
      have hbox := vblk_set (i := 3) (.slice a51 1 c51) hbox
      have q4 : (((w52).setCell ⟨b, 0, none⟩ (.slice a50 1 c50)).setCell ⟨b, 3, none⟩ (.slice a51 1 c51)).cell? ⟨b, 4, none⟩ = some (.slice none 0 0) := by simp [World.cell?, hbox]
      have z4 : (((w52).setCell ⟨b, 0, none⟩ (.slice a50 1 c50)).setCell ⟨b, 3, none⟩ (.slice a51 1 c51)).frozen? ⟨b, 4, none⟩ = false := hfree hbox 4
      refine wpAnyL_one (i := 28) (by kernel_rfl) rfl (fun Ka hKa => ?_)
      go_simp
      refine hKa.out _ _ (fun h => absurd h (Bool.eq_false_iff.1 (by kernel_rfl))) ?_
      clear hKa Ka
      try simp only [Act.put, List.setIfInBounds_toArray, List.set_cons_zero, List.set_cons_succ]
      refine wpAnyL_one (i := 29) (by kernel_rfl) rfl (fun Ka hKa => ?_)
      go_simp
      refine hKa.out _ _ (fun h => absurd h (Bool.eq_false_iff.1 (by kernel_rfl))) ?_
      clear hKa Ka
      try simp only [Act.put, List.setIfInBounds_toArray, List.set_cons_zero, List.set_cons_succ]
      refine wpAnyL_one (i := 30) (by kernel_rfl) rfl (fun Ka hKa => ?_)
      go_simp
      refine hKa.out _ _ (fun h => absurd h (Bool.eq_false_iff.1 (by kernel_rfl))) ?_
      clear hKa Ka
      try simp only [Act.put, List.setIfInBounds_toArray, List.set_cons_zero, List.set_cons_succ]
      refine wpAnyL_done (by kernel_rfl) ?_ _
      have hF := FIN.out _ _ _ _ _ Gw52.out rfl
      generalize hWz : World.setCell _ _ _ = Wz
      first | rw [hWz] at hF | (simp only [List.nil_append, List.length_cons, List.length_nil] at hF; rw [hWz] at hF)
      have HF : Hid _ := hF
      clear hF hWz hbox q0 z0 q3 z3 q4 z4
      go_wp2
      rw [rounds_succ]
      go_wp2
      go_ret2
      obtain ⟨S, g, c0, gh, c1, h1, h2, h3, h4, h5, h6⟩ := HF.out
      rw [HMA.out]
      exact ⟨S, b, p, g, c0, gh, c1, ma, _, rfl, h1, h2, h3, h4, h5, h6⟩
  · go_simp
    obtain ⟨w53, hw53⟩ : ∃ W, Wd.alloc (.cells #[.int .i64 0] 3) = W := ⟨_, rfl⟩
    have b53 : Below Wd.heap.size Wd w53 := by rw [← hw53]; exact vone_new _ _
    have S53 : Hid (w53.heap[Wd.heap.size]? = some (.cells #[.int .i64 0] 3 (0, 0))) := by show _ = _; rw [← hw53]; exact heap_alloc_new _ _
    have L53 : Hid (Wd.heap.size ≤ Wd.heap.size) := HG0.out.low
    have Gw53 : Hid (BgS Wd w53 b (.slice none 0 0) (.slice none 0 0) (.slice none 0 0) (.slice none 0 0) (.slice none 0 0) (.slice none 0 0) (.slice none 0 0) ma [] [] []) := HG0.out.new b53
    rw [hw53]
    refine hKa.out _ _ (fun _ => SOK.out _ _ _ _ _ _ _ Gw53.out) ?_
    clear hKa Ka
    try simp only [Act.put, List.setIfInBounds_toArray, List.set_cons_zero, List.set_cons_succ]
    refine wpAnyL_two (i := 8) (j := 14) (by kernel_rfl) rfl rfl (fun Ka hKa => ?_) (fun Ka hKa => ?_)
    · go_simp
      obtain ⟨w54, hw54⟩ : ∃ W, w53.alloc (.cells #[.pointer (some ⟨p, 0, none⟩)] 51) = W := ⟨_, rfl⟩
      have b54 : Below w53.heap.size w53 w54 := by rw [← hw54]; exact vone_new _ _
      have S54 : Hid (w54.heap[w53.heap.size]? = some (.cells #[.pointer (some ⟨p, 0, none⟩)] 51 (0, 0))) := by show _ = _; rw [← hw54]; exact heap_alloc_new _ _
      have L54 : Hid (Wd.heap.size ≤ w53.heap.size) := Gw53.out.low
      have Gw54 : Hid (BgS Wd w54 b (.slice none 0 0) (.slice none 0 0) (.slice none 0 0) (.slice none 0 0) (.slice none 0 0) (.slice none 0 0) (.slice none 0 0) ma [] [] []) := Gw53.out.new b54
      have S54C : Hid (w54.heap[Wd.heap.size]? = some (.cells #[.int .i64 0] 3 (0, 0))) := (b54.block _ (vlt_blk S53.out)).trans S53.out
      rw [hw54]
      refine hKa.out _ _ (fun _ => SOK.out _ _ _ _ _ _ _ Gw54.out) ?_
      clear hKa Ka
      try simp only [Act.put, List.setIfInBounds_toArray, List.set_cons_zero, List.set_cons_succ]
      refine wpAnyL_two (i := 9) (j := 14) (by kernel_rfl) rfl rfl (fun Ka hKa => ?_) (fun Ka hKa => ?_)
      · obtain ⟨v55, w55, hr55, ho55, hf55, hl55⟩ := app_ptr Gw54.out.l S54.out rfl (by decide) 67
        have Gw55 : Hid (BgS Wd w55 b (.slice none 0 0) (.slice none 0 0) (.slice none 0 0) (.slice none 0 0) v55 (.slice none 0 0) (.slice none 0 0) ma [.pointer (some ⟨p, 0, none⟩)] [] []) := Gw54.out.appL ho55 hf55 hl55
        have S55C : Hid (w55.heap[Wd.heap.size]? = some (.cells #[.int .i64 0] 3 (0, 0))) := src_keep (W0 := Wd) S54C.out L53.out hf55 (fun _ h => by cases h)
        obtain ⟨a55, c55, e55, _⟩ := ho55.shape
        rw [show ([] ++ [.pointer (some ⟨p, 0, none⟩)] : List Value).length = 1 from rfl] at e55
        subst e55
        refine stp_run rfl rfl rfl rfl hr55 ?_
        have Gw55 : Hid (BgS Wd w55 b (.slice none 0 0) (.slice none 0 0) (.slice none 0 0) (.slice none 0 0) (.slice a55 1 c55) (.slice none 0 0) (.slice none 0 0) ma [.pointer (some ⟨p, 0, none⟩)] [] []) := Gw55.out
        refine hKa.out _ _ (fun _ => SOK.out _ _ _ _ _ _ _ Gw55.out) ?_
        clear hKa Ka
        try simp only [Act.put, List.setIfInBounds_toArray, List.set_cons_zero, List.set_cons_succ]
        refine wpAnyL_one (i := 14) (by kernel_rfl) rfl (fun Ka hKa => ?_)
        go_simp
        obtain ⟨w56, hw56⟩ : ∃ W, w55.alloc (.cells #[.int .i64 0] 3) = W := ⟨_, rfl⟩
        have b56 : Below w55.heap.size w55 w56 := by rw [← hw56]; exact vone_new _ _
        have S56 : Hid (w56.heap[w55.heap.size]? = some (.cells #[.int .i64 0] 3 (0, 0))) := by show _ = _; rw [← hw56]; exact heap_alloc_new _ _
        have L56 : Hid (Wd.heap.size ≤ w55.heap.size) := Gw55.out.low
        have Gw56 : Hid (BgS Wd w56 b (.slice none 0 0) (.slice none 0 0) (.slice none 0 0) (.slice none 0 0) (.slice a55 1 c55) (.slice none 0 0) (.slice none 0 0) ma [.pointer (some ⟨p, 0, none⟩)] [] []) := Gw55.out.new b56
        have S56C : Hid (w56.heap[Wd.heap.size]? = some (.cells #[.int .i64 0] 3 (0, 0))) := (b56.block _ (vlt_blk S55C.out)).trans S55C.out
        rw [hw56]
        refine hKa.out _ _ (fun _ => SOK.out _ _ _ _ _ _ _ Gw56.out) ?_
        clear hKa Ka
        try simp only [Act.put, List.setIfInBounds_toArray, List.set_cons_zero, List.set_cons_succ]
        refine wpAnyL_one (i := 15) (by kernel_rfl) rfl (fun Ka hKa => ?_)
        obtain ⟨v57, w57, hr57, ho57, hf57, hl57⟩ := app_int Gw56.out.h S56.out rfl (by decide) 26
        have Gw57 : Hid (BgS Wd w57 b (.slice none 0 0) (.slice none 0 0) (.slice none 0 0) (.slice none 0 0) (.slice a55 1 c55) v57 (.slice none 0 0) ma [.pointer (some ⟨p, 0, none⟩)] [.int .i64 0] []) := Gw56.out.appH ho57 hf57 hl57
        have S57C : Hid (w57.heap[Wd.heap.size]? = some (.cells #[.int .i64 0] 3 (0, 0))) := src_keep (W0 := Wd) S56C.out L53.out hf57 (fun _ h => by cases h)
        obtain ⟨a57, c57, e57, _⟩ := ho57.shape
        rw [show ([] ++ [.int .i64 0] : List Value).length = 1 from rfl] at e57
        subst e57
        refine stp_run rfl rfl rfl rfl hr57 ?_
        have Gw57 : Hid (BgS Wd w57 b (.slice none 0 0) (.slice none 0 0) (.slice none 0 0) (.slice none 0 0) (.slice a55 1 c55) (.slice a57 1 c57) (.slice none 0 0) ma [.pointer (some ⟨p, 0, none⟩)] [.int .i64 0] []) := Gw57.out
        refine hKa.out _ _ (fun _ => SOK.out _ _ _ _ _ _ _ Gw57.out) ?_
        clear hKa Ka
        try simp only [Act.put, List.setIfInBounds_toArray, List.set_cons_zero, List.set_cons_succ]
        refine wpAnyL_one (i := 21) (by kernel_rfl) rfl (fun Ka hKa => ?_)
        obtain ⟨v58, w58, hr58, ho58, hf58, hl58⟩ := app_int Gw57.out.v S57C.out rfl (by decide) 26
        have Gw58 : Hid (BgS Wd w58 b (.slice none 0 0) (.slice none 0 0) (.slice none 0 0) (.slice none 0 0) (.slice a55 1 c55) (.slice a57 1 c57) v58 ma [.pointer (some ⟨p, 0, none⟩)] [.int .i64 0] [.int .i64 0]) := Gw57.out.appV ho58 hf58 hl58
        obtain ⟨a58, c58, e58, _⟩ := ho58.shape
        rw [show ([] ++ [.int .i64 0] : List Value).length = 1 from rfl] at e58
        subst e58
        refine stp_run rfl rfl rfl rfl hr58 ?_
        have Gw58 : Hid (BgS Wd w58 b (.slice none 0 0) (.slice none 0 0) (.slice none 0 0) (.slice none 0 0) (.slice a55 1 c55) (.slice a57 1 c57) (.slice a58 1 c58) ma [.pointer (some ⟨p, 0, none⟩)] [.int .i64 0] [.int .i64 0]) := Gw58.out
        refine hKa.out _ _ (fun _ => SOK.out _ _ _ _ _ _ _ Gw58.out) ?_
        clear hKa Ka
        try simp only [Act.put, List.setIfInBounds_toArray, List.set_cons_zero, List.set_cons_succ]
        have hbox := Gw58.out.box
        have q0 : w58.cell? ⟨b, 0, none⟩ = some (.slice none 0 0) := by simp [World.cell?, hbox]
        have z0 : w58.frozen? ⟨b, 0, none⟩ = false := hfree hbox 0
        refine wpAnyL_one (i := 22) (by kernel_rfl) rfl (fun Ka hKa => ?_)
        go_simp
        refine hKa.out _ _ (fun _ => SOK.out _ _ _ _ _ _ _ Gw58.out) ?_
        clear hKa Ka
        try simp only [Act.put, List.setIfInBounds_toArray, List.set_cons_zero, List.set_cons_succ]
        refine wpAnyL_one (i := 23) (by kernel_rfl) rfl (fun Ka hKa => ?_)
        go_simp
        refine hKa.out _ _ (fun _ => SOK.out _ _ _ _ _ _ _ Gw58.out) ?_
        clear hKa Ka
        try simp only [Act.put, List.setIfInBounds_toArray, List.set_cons_zero, List.set_cons_succ]
        refine wpAnyL_one (i := 24) (by kernel_rfl) rfl (fun Ka hKa => ?_)
        go_simp
        refine hKa.out _ _ (fun h => absurd h (Bool.eq_false_iff.1 (by kernel_rfl))) ?_
        clear hKa Ka
        try simp only [Act.put, List.setIfInBounds_toArray, List.set_cons_zero, List.set_cons_succ]
        have hbox := vblk_set (i := 0) (.slice a55 1 c55) hbox
        have q3 : ((w58).setCell ⟨b, 0, none⟩ (.slice a55 1 c55)).cell? ⟨b, 3, none⟩ = some (.slice none 0 0) := by simp [World.cell?, hbox]
        have z3 : ((w58).setCell ⟨b, 0, none⟩ (.slice a55 1 c55)).frozen? ⟨b, 3, none⟩ = false := hfree hbox 3
        refine wpAnyL_one (i := 25) (by kernel_rfl) rfl (fun Ka hKa => ?_)
        go_simp
        refine hKa.out _ _ (fun h => absurd h (Bool.eq_false_iff.1 (by kernel_rfl))) ?_
        clear hKa Ka
        try simp only [Act.put, List.setIfInBounds_toArray, List.set_cons_zero, List.set_cons_succ]
        refine wpAnyL_one (i := 26) (by kernel_rfl) rfl (fun Ka hKa => ?_)
        go_simp
        refine hKa.out _ _ (fun h => absurd h (Bool.eq_false_iff.1 (by kernel_rfl))) ?_
        clear hKa Ka
        try simp only [Act.put, List.setIfInBounds_toArray, List.set_cons_zero, List.set_cons_succ]
        refine wpAnyL_one (i := 27) (by kernel_rfl) rfl (fun Ka hKa => ?_)
        go_simp
        refine hKa.out _ _ (fun h => absurd h (Bool.eq_false_iff.1 (by kernel_rfl))) ?_
        clear hKa Ka
        try simp only [Act.put, List.setIfInBounds_toArray, List.set_cons_zero, List.set_cons_succ]
        have hbox := vblk_set (i := 3) (.slice a57 1 c57) hbox
        have q4 : (((w58).setCell ⟨b, 0, none⟩ (.slice a55 1 c55)).setCell ⟨b, 3, none⟩ (.slice a57 1 c57)).cell? ⟨b, 4, none⟩ = some (.slice none 0 0) := by simp [World.cell?, hbox]
        have z4 : (((w58).setCell ⟨b, 0, none⟩ (.slice a55 1 c55)).setCell ⟨b, 3, none⟩ (.slice a57 1 c57)).frozen? ⟨b, 4, none⟩ = false := hfree hbox 4
        refine wpAnyL_one (i := 28) (by kernel_rfl) rfl (fun Ka hKa => ?_)
        go_simp
        refine hKa.out _ _ (fun h => absurd h (Bool.eq_false_iff.1 (by kernel_rfl))) ?_
        clear hKa Ka
        try simp only [Act.put, List.setIfInBounds_toArray, List.set_cons_zero, List.set_cons_succ]
        refine wpAnyL_one (i := 29) (by kernel_rfl) rfl (fun Ka hKa => ?_)
        go_simp
        refine hKa.out _ _ (fun h => absurd h (Bool.eq_false_iff.1 (by kernel_rfl))) ?_
        clear hKa Ka
        try simp only [Act.put, List.setIfInBounds_toArray, List.set_cons_zero, List.set_cons_succ]
        refine wpAnyL_one (i := 30) (by kernel_rfl) rfl (fun Ka hKa => ?_)
        go_simp
        refine hKa.out _ _ (fun h => absurd h (Bool.eq_false_iff.1 (by kernel_rfl))) ?_
        clear hKa Ka
        try simp only [Act.put, List.setIfInBounds_toArray, List.set_cons_zero, List.set_cons_succ]
        refine wpAnyL_done (by kernel_rfl) ?_ _
        have hF := FIN.out _ _ _ _ _ Gw58.out rfl
        generalize hWz : World.setCell _ _ _ = Wz
        first | rw [hWz] at hF | (simp only [List.nil_append, List.length_cons, List.length_nil] at hF; rw [hWz] at hF)
        have HF : Hid _ := hF
        clear hF hWz hbox q0 z0 q3 z3 q4 z4
        go_wp2
        rw [rounds_succ]
        go_wp2
        go_ret2
        obtain ⟨S, g, c0, gh, c1, h1, h2, h3, h4, h5, h6⟩ := HF.out
        rw [HMA.out]
        exact ⟨S, b, p, g, c0, gh, c1, ma, _, rfl, h1, h2, h3, h4, h5, h6⟩
      · go_simp
        obtain ⟨w59, hw59⟩ : ∃ W, w54.alloc (.cells #[.int .i64 0] 3) = W := ⟨_, rfl⟩
        have b59 : Below w54.heap.size w54 w59 := by rw [← hw59]; exact vone_new _ _
        have S59 : Hid (w59.heap[w54.heap.size]? = some (.cells #[.int .i64 0] 3 (0, 0))) := by show _ = _; rw [← hw59]; exact heap_alloc_new _ _
        have L59 : Hid (Wd.heap.size ≤ w54.heap.size) := Gw54.out.low
        have Gw59 : Hid (BgS Wd w59 b (.slice none 0 0) (.slice none 0 0) (.slice none 0 0) (.slice none 0 0) (.slice none 0 0) (.slice none 0 0) (.slice none 0 0) ma [] [] []) := Gw54.out.new b59
        have S59C : Hid (w59.heap[Wd.heap.size]? = some (.cells #[.int .i64 0] 3 (0, 0))) := (b59.block _ (vlt_blk S54C.out)).trans S54C.out
        have S59A : Hid (w59.heap[w53.heap.size]? = some (.cells #[.pointer (some ⟨p, 0, none⟩)] 51 (0, 0))) := (b59.block _ (vlt_blk S54.out)).trans S54.out
        rw [hw59]
        refine hKa.out _ _ (fun _ => SOK.out _ _ _ _ _ _ _ Gw59.out) ?_
        clear hKa Ka
        try simp only [Act.put, List.setIfInBounds_toArray, List.set_cons_zero, List.set_cons_succ]
        refine wpAnyL_one (i := 9) (by kernel_rfl) rfl (fun Ka hKa => ?_)
        obtain ⟨v60, w60, hr60, ho60, hf60, hl60⟩ := app_ptr Gw59.out.l S59A.out rfl (by decide) 67
        have Gw60 : Hid (BgS Wd w60 b (.slice none 0 0) (.slice none 0 0) (.slice none 0 0) (.slice none 0 0) v60 (.slice none 0 0) (.slice none 0 0) ma [.pointer (some ⟨p, 0, none⟩)] [] []) := Gw59.out.appL ho60 hf60 hl60
        have S60C : Hid (w60.heap[Wd.heap.size]? = some (.cells #[.int .i64 0] 3 (0, 0))) := src_keep (W0 := Wd) S59C.out L53.out hf60 (fun _ h => by cases h)
        have S60B : Hid (w60.heap[w54.heap.size]? = some (.cells #[.int .i64 0] 3 (0, 0))) := src_keep (W0 := Wd) S59.out L59.out hf60 (fun _ h => by cases h)
        obtain ⟨a60, c60, e60, _⟩ := ho60.shape
        rw [show ([] ++ [.pointer (some ⟨p, 0, none⟩)] : List Value).length = 1 from rfl] at e60
        subst e60
        refine stp_run rfl rfl rfl rfl hr60 ?_
        have Gw60 : Hid (BgS Wd w60 b (.slice none 0 0) (.slice none 0 0) (.slice none 0 0) (.slice none 0 0) (.slice a60 1 c60) (.slice none 0 0) (.slice none 0 0) ma [.pointer (some ⟨p, 0, none⟩)] [] []) := Gw60.out
        refine hKa.out _ _ (fun _ => SOK.out _ _ _ _ _ _ _ Gw60.out) ?_
        clear hKa Ka
        try simp only [Act.put, List.setIfInBounds_toArray, List.set_cons_zero, List.set_cons_succ]
        refine wpAnyL_one (i := 15) (by kernel_rfl) rfl (fun Ka hKa => ?_)
        obtain ⟨v61, w61, hr61, ho61, hf61, hl61⟩ := app_int Gw60.out.h S60B.out rfl (by decide) 26
        have Gw61 : Hid (BgS Wd w61 b (.slice none 0 0) (.slice none 0 0) (.slice none 0 0) (.slice none 0 0) (.slice a60 1 c60) v61 (.slice none 0 0) ma [.pointer (some ⟨p, 0, none⟩)] [.int .i64 0] []) := Gw60.out.appH ho61 hf61 hl61
        have S61C : Hid (w61.heap[Wd.heap.size]? = some (.cells #[.int .i64 0] 3 (0, 0))) := src_keep (W0 := Wd) S60C.out L53.out hf61 (fun _ h => by cases h)
        obtain ⟨a61, c61, e61, _⟩ := ho61.shape
        rw [show ([] ++ [.int .i64 0] : List Value).length = 1 from rfl] at e61
        subst e61
        refine stp_run rfl rfl rfl rfl hr61 ?_
        have Gw61 : Hid (BgS Wd w61 b (.slice none 0 0) (.slice none 0 0) (.slice none 0 0) (.slice none 0 0) (.slice a60 1 c60) (.slice a61 1 c61) (.slice none 0 0) ma [.pointer (some ⟨p, 0, none⟩)] [.int .i64 0] []) := Gw61.out
        refine hKa.out _ _ (fun _ => SOK.out _ _ _ _ _ _ _ Gw61.out) ?_
        clear hKa Ka
        try simp only [Act.put, List.setIfInBounds_toArray, List.set_cons_zero, List.set_cons_succ]
        refine wpAnyL_one (i := 21) (by kernel_rfl) rfl (fun Ka hKa => ?_)
        obtain ⟨v62, w62, hr62, ho62, hf62, hl62⟩ := app_int Gw61.out.v S61C.out rfl (by decide) 26
        have Gw62 : Hid (BgS Wd w62 b (.slice none 0 0) (.slice none 0 0) (.slice none 0 0) (.slice none 0 0) (.slice a60 1 c60) (.slice a61 1 c61) v62 ma [.pointer (some ⟨p, 0, none⟩)] [.int .i64 0] [.int .i64 0]) := Gw61.out.appV ho62 hf62 hl62
        obtain ⟨a62, c62, e62, _⟩ := ho62.shape
        rw [show ([] ++ [.int .i64 0] : List Value).length = 1 from rfl] at e62
        subst e62
        refine stp_run rfl rfl rfl rfl hr62 ?_
        have Gw62 : Hid (BgS Wd w62 b (.slice none 0 0) (.slice none 0 0) (.slice none 0 0) (.slice none 0 0) (.slice a60 1 c60) (.slice a61 1 c61) (.slice a62 1 c62) ma [.pointer (some ⟨p, 0, none⟩)] [.int .i64 0] [.int .i64 0]) := Gw62.out
        refine hKa.out _ _ (fun _ => SOK.out _ _ _ _ _ _ _ Gw62.out) ?_
        clear hKa Ka
        try simp only [Act.put, List.setIfInBounds_toArray, List.set_cons_zero, List.set_cons_succ]
        have hbox := Gw62.out.box
        have q0 : w62.cell? ⟨b, 0, none⟩ = some (.slice none 0 0) := by simp [World.cell?, hbox]
        have z0 : w62.frozen? ⟨b, 0, none⟩ = false := hfree hbox 0
        refine wpAnyL_one (i := 22) (by kernel_rfl) rfl (fun Ka hKa => ?_)
        go_simp
        refine hKa.out _ _ (fun _ => SOK.out _ _ _ _ _ _ _ Gw62.out) ?_
        clear hKa Ka
        try simp only [Act.put, List.setIfInBounds_toArray, List.set_cons_zero, List.set_cons_succ]
        refine wpAnyL_one (i := 23) (by kernel_rfl) rfl (fun Ka hKa => ?_)
        go_simp
        refine hKa.out _ _ (fun _ => SOK.out _ _ _ _ _ _ _ Gw62.out) ?_
        clear hKa Ka
        try simp only [Act.put, List.setIfInBounds_toArray, List.set_cons_zero, List.set_cons_succ]
        refine wpAnyL_one (i := 24) (by kernel_rfl) rfl (fun Ka hKa => ?_)
        go_simp
        refine hKa.out _ _ (fun h => absurd h (Bool.eq_false_iff.1 (by kernel_rfl))) ?_
        clear hKa Ka
        try simp only [Act.put, List.setIfInBounds_toArray, List.set_cons_zero, List.set_cons_succ]
        have hbox := vblk_set (i := 0) (.slice a60 1 c60) hbox
        have q3 : ((w62).setCell ⟨b, 0, none⟩ (.slice a60 1 c60)).cell? ⟨b, 3, none⟩ = some (.slice none 0 0) := by simp [World.cell?, hbox]
        have z3 : ((w62).setCell ⟨b, 0, none⟩ (.slice a60 1 c60)).frozen? ⟨b, 3, none⟩ = false := hfree hbox 3
        refine wpAnyL_one (i := 25) (by kernel_rfl) rfl (fun Ka hKa => ?_)
        go_simp
        refine hKa.out _ _ (fun h => absurd h (Bool.eq_false_iff.1 (by kernel_rfl))) ?_
        clear hKa Ka
        try simp only [Act.put, List.setIfInBounds_toArray, List.set_cons_zero, List.set_cons_succ]
        refine wpAnyL_one (i := 26) (by kernel_rfl) rfl (fun Ka hKa => ?_)
        go_simp
        refine hKa.out _ _ (fun h => absurd h (Bool.eq_false_iff.1 (by kernel_rfl))) ?_
        clear hKa Ka
        try simp only [Act.put, List.setIfInBounds_toArray, List.set_cons_zero, List.set_cons_succ]
        refine wpAnyL_one (i := 27) (by kernel_rfl) rfl (fun Ka hKa => ?_)
        go_simp
        refine hKa.out _ _ (fun h => absurd h (Bool.eq_false_iff.1 (by kernel_rfl))) ?_
        clear hKa Ka
        try simp only [Act.put, List.setIfInBounds_toArray, List.set_cons_zero, List.set_cons_succ]
        have hbox := vblk_set (i := 3) (.slice a61 1 c61) hbox
        have q4 : (((w62).setCell ⟨b, 0, none⟩ (.slice a60 1 c60)).setCell ⟨b, 3, none⟩ (.slice a61 1 c61)).cell? ⟨b, 4, none⟩ = some (.slice none 0 0) := by simp [World.cell?, hbox]
        have z4 : (((w62).setCell ⟨b, 0, none⟩ (.slice a60 1 c60)).setCell ⟨b, 3, none⟩ (.slice a61 1 c61)).frozen? ⟨b, 4, none⟩ = false := hfree hbox 4
        refine wpAnyL_one (i := 28) (by kernel_rfl) rfl (fun Ka hKa => ?_)
        go_simp
        refine hKa.out _ _ (fun h => absurd h (Bool.eq_false_iff.1 (by kernel_rfl))) ?_
        clear hKa Ka
        try simp only [Act.put, List.setIfInBounds_toArray, List.set_cons_zero, List.set_cons_succ]
        refine wpAnyL_one (i := 29) (by kernel_rfl) rfl (fun Ka hKa => ?_)
        go_simp
        refine hKa.out _ _ (fun h => absurd h (Bool.eq_false_iff.1 (by kernel_rfl))) ?_
        clear hKa Ka
        try simp only [Act.put, List.setIfInBounds_toArray, List.set_cons_zero, List.set_cons_succ]
        refine wpAnyL_one (i := 30) (by kernel_rfl) rfl (fun Ka hKa => ?_)
        go_simp
        refine hKa.out _ _ (fun h => absurd h (Bool.eq_false_iff.1 (by kernel_rfl))) ?_
        clear hKa Ka
        try simp only [Act.put, List.setIfInBounds_toArray, List.set_cons_zero, List.set_cons_succ]
        refine wpAnyL_done (by kernel_rfl) ?_ _
        have hF := FIN.out _ _ _ _ _ Gw62.out rfl
        generalize hWz : World.setCell _ _ _ = Wz
        first | rw [hWz] at hF | (simp only [List.nil_append, List.length_cons, List.length_nil] at hF; rw [hWz] at hF)
        have HF : Hid _ := hF
        clear hF hWz hbox q0 z0 q3 z3 q4 z4
        go_wp2
        rw [rounds_succ]
        go_wp2
        go_ret2
        obtain ⟨S, g, c0, gh, c1, h1, h2, h3, h4, h5, h6⟩ := HF.out
        rw [HMA.out]
        exact ⟨S, b, p, g, c0, gh, c1, ma, _, rfl, h1, h2, h3, h4, h5, h6⟩
    · go_simp
      obtain ⟨w63, hw63⟩ : ∃ W, w53.alloc (.cells #[.int .i64 0] 3) = W := ⟨_, rfl⟩
      have b63 : Below w53.heap.size w53 w63 := by rw [← hw63]; exact vone_new _ _
      have S63 : Hid (w63.heap[w53.heap.size]? = some (.cells #[.int .i64 0] 3 (0, 0))) := by show _ = _; rw [← hw63]; exact heap_alloc_new _ _
      have L63 : Hid (Wd.heap.size ≤ w53.heap.size) := Gw53.out.low
      have Gw63 : Hid (BgS Wd w63 b (.slice none 0 0) (.slice none 0 0) (.slice none 0 0) (.slice none 0 0) (.slice none 0 0) (.slice none 0 0) (.slice none 0 0) ma [] [] []) := Gw53.out.new b63
      have S63C : Hid (w63.heap[Wd.heap.size]? = some (.cells #[.int .i64 0] 3 (0, 0))) := (b63.block _ (vlt_blk S53.out)).trans S53.out
      rw [hw63]
      refine hKa.out _ _ (fun _ => SOK.out _ _ _ _ _ _ _ Gw63.out) ?_
      clear hKa Ka
      try simp only [Act.put, List.setIfInBounds_toArray, List.set_cons_zero, List.set_cons_succ]
      refine wpAnyL_one (i := 8) (by kernel_rfl) rfl (fun Ka hKa => ?_)
      go_simp
      obtain ⟨w64, hw64⟩ : ∃ W, w63.alloc (.cells #[.pointer (some ⟨p, 0, none⟩)] 51) = W := ⟨_, rfl⟩
      have b64 : Below w63.heap.size w63 w64 := by rw [← hw64]; exact vone_new _ _
      have S64 : Hid (w64.heap[w63.heap.size]? = some (.cells #[.pointer (some ⟨p, 0, none⟩)] 51 (0, 0))) := by show _ = _; rw [← hw64]; exact heap_alloc_new _ _
      have L64 : Hid (Wd.heap.size ≤ w63.heap.size) := Gw63.out.low
      have Gw64 : Hid (BgS Wd w64 b (.slice none 0 0) (.slice none 0 0) (.slice none 0 0) (.slice none 0 0) (.slice none 0 0) (.slice none 0 0) (.slice none 0 0) ma [] [] []) := Gw63.out.new b64
      have S64C : Hid (w64.heap[Wd.heap.size]? = some (.cells #[.int .i64 0] 3 (0, 0))) := (b64.block _ (vlt_blk S63C.out)).trans S63C.out
      have S64B : Hid (w64.heap[w53.heap.size]? = some (.cells #[.int .i64 0] 3 (0, 0))) := (b64.block _ (vlt_blk S63.out)).trans S63.out
      rw [hw64]
      refine hKa.out _ _ (fun _ => SOK.out _ _ _ _ _ _ _ Gw64.out) ?_
      clear hKa Ka
      try simp only [Act.put, List.setIfInBounds_toArray, List.set_cons_zero, List.set_cons_succ]
      refine wpAnyL_one (i := 9) (by kernel_rfl) rfl (fun Ka hKa => ?_)
      obtain ⟨v65, w65, hr65, ho65, hf65, hl65⟩ := app_ptr Gw64.out.l S64.out rfl (by decide) 67
      have Gw65 : Hid (BgS Wd w65 b (.slice none 0 0) (.slice none 0 0) (.slice none 0 0) (.slice none 0 0) v65 (.slice none 0 0) (.slice none 0 0) ma [.pointer (some ⟨p, 0, none⟩)] [] []) := Gw64.out.appL ho65 hf65 hl65
      have S65C : Hid (w65.heap[Wd.heap.size]? = some (.cells #[.int .i64 0] 3 (0, 0))) := src_keep (W0 := Wd) S64C.out L53.out hf65 (fun _ h => by cases h)
      have S65B : Hid (w65.heap[w53.heap.size]? = some (.cells #[.int .i64 0] 3 (0, 0))) := src_keep (W0 := Wd) S64B.out L63.out hf65 (fun _ h => by cases h)
      obtain ⟨a65, c65, e65, _⟩ := ho65.shape
      rw [show ([] ++ [.pointer (some ⟨p, 0, none⟩)] : List Value).length = 1 from rfl] at e65
      subst e65
      refine stp_run rfl rfl rfl rfl hr65 ?_
      have Gw65 : Hid (BgS Wd w65 b (.slice none 0 0) (.slice none 0 0) (.slice none 0 0) (.slice none 0 0) (.slice a65 1 c65) (.slice none 0 0) (.slice none 0 0) ma [.pointer (some ⟨p, 0, none⟩)] [] []) := Gw65.out
      refine hKa.out _ _ (fun _ => SOK.out _ _ _ _ _ _ _ Gw65.out) ?_
      clear hKa Ka
      try simp only [Act.put, List.setIfInBounds_toArray, List.set_cons_zero, List.set_cons_succ]
      refine wpAnyL_one (i := 15) (by kernel_rfl) rfl (fun Ka hKa => ?_)
      obtain ⟨v66, w66, hr66, ho66, hf66, hl66⟩ := app_int Gw65.out.h S65B.out rfl (by decide) 26
      have Gw66 : Hid (BgS Wd w66 b (.slice none 0 0) (.slice none 0 0) (.slice none 0 0) (.slice none 0 0) (.slice a65 1 c65) v66 (.slice none 0 0) ma [.pointer (some ⟨p, 0, none⟩)] [.int .i64 0] []) := Gw65.out.appH ho66 hf66 hl66
      have S66C : Hid (w66.heap[Wd.heap.size]? = some (.cells #[.int .i64 0] 3 (0, 0))) := src_keep (W0 := Wd) S65C.out L53.out hf66 (fun _ h => by cases h)
      obtain ⟨a66, c66, e66, _⟩ := ho66.shape
      rw [show ([] ++ [.int .i64 0] : List Value).length = 1 from rfl] at e66
      subst e66
      refine stp_run rfl rfl rfl rfl hr66 ?_
      have Gw66 : Hid (BgS Wd w66 b (.slice none 0 0) (.slice none 0 0) (.slice none 0 0) (.slice none 0 0) (.slice a65 1 c65) (.slice a66 1 c66) (.slice none 0 0) ma [.pointer (some ⟨p, 0, none⟩)] [.int .i64 0] []) := Gw66.out
      refine hKa.out _ _ (fun _ => SOK.out _ _ _ _ _ _ _ Gw66.out) ?_
      clear hKa Ka
      try simp only [Act.put, List.setIfInBounds_toArray, List.set_cons_zero, List.set_cons_succ]
      refine wpAnyL_one (i := 21) (by kernel_rfl) rfl (fun Ka hKa => ?_)
      obtain ⟨v67, w67, hr67, ho67, hf67, hl67⟩ := app_int Gw66.out.v S66C.out rfl (by decide) 26
      have Gw67 : Hid (BgS Wd w67 b (.slice none 0 0) (.slice none 0 0) (.slice none 0 0) (.slice none 0 0) (.slice a65 1 c65) (.slice a66 1 c66) v67 ma [.pointer (some ⟨p, 0, none⟩)] [.int .i64 0] [.int .i64 0]) := Gw66.out.appV ho67 hf67 hl67
      obtain ⟨a67, c67, e67, _⟩ := ho67.shape
      rw [show ([] ++ [.int .i64 0] : List Value).length = 1 from rfl] at e67
      subst e67
      refine stp_run rfl rfl rfl rfl hr67 ?_
      have Gw67 : Hid (BgS Wd w67 b (.slice none 0 0) (.slice none 0 0) (.slice none 0 0) (.slice none 0 0) (.slice a65 1 c65) (.slice a66 1 c66) (.slice a67 1 c67) ma [.pointer (some ⟨p, 0, none⟩)] [.int .i64 0] [.int .i64 0]) := Gw67.out
      refine hKa.out _ _ (fun _ => SOK.out _ _ _ _ _ _ _ Gw67.out) ?_
      clear hKa Ka
      try simp only [Act.put, List.setIfInBounds_toArray, List.set_cons_zero, List.set_cons_succ]
      have hbox := Gw67.out.box
      have q0 : w67.cell? ⟨b, 0, none⟩ = some (.slice none 0 0) := by simp [World.cell?, hbox]
      have z0 : w67.frozen? ⟨b, 0, none⟩ = false := hfree hbox 0
      refine wpAnyL_one (i := 22) (by kernel_rfl) rfl (fun Ka hKa => ?_)
      go_simp
      refine hKa.out _ _ (fun _ => SOK.out _ _ _ _ _ _ _ Gw67.out) ?_
      clear hKa Ka
      try simp only [Act.put, List.setIfInBounds_toArray, List.set_cons_zero, List.set_cons_succ]
      refine wpAnyL_one (i := 23) (by kernel_rfl) rfl (fun Ka hKa => ?_)
      go_simp
      refine hKa.out _ _ (fun _ => SOK.out _ _ _ _ _ _ _ Gw67.out) ?_
      clear hKa Ka
      try simp only [Act.put, List.setIfInBounds_toArray, List.set_cons_zero, List.set_cons_succ]
      refine wpAnyL_one (i := 24) (by kernel_rfl) rfl (fun Ka hKa => ?_)
      go_simp
      refine hKa.out _ _ (fun h => absurd h (Bool.eq_false_iff.1 (by kernel_rfl))) ?_
      clear hKa Ka
      try simp only [Act.put, List.setIfInBounds_toArray, List.set_cons_zero, List.set_cons_succ]
      have hbox := vblk_set (i := 0) (.slice a65 1 c65) hbox
      have q3 : ((w67).setCell ⟨b, 0, none⟩ (.slice a65 1 c65)).cell? ⟨b, 3, none⟩ = some (.slice none 0 0) := by simp [World.cell?, hbox]
      have z3 : ((w67).setCell ⟨b, 0, none⟩ (.slice a65 1 c65)).frozen? ⟨b, 3, none⟩ = false := hfree hbox 3
      refine wpAnyL_one (i := 25) (by kernel_rfl) rfl (fun Ka hKa => ?_)
      go_simp
      refine hKa.out _ _ (fun h => absurd h (Bool.eq_false_iff.1 (by kernel_rfl))) ?_
      clear hKa Ka
      try simp only [Act.put, List.setIfInBounds_toArray, List.set_cons_zero, List.set_cons_succ]
      refine wpAnyL_one (i := 26) (by kernel_rfl) rfl (fun Ka hKa => ?_)
      go_simp
      refine hKa.out _ _ (fun h => absurd h (Bool.eq_false_iff.1 (by kernel_rfl))) ?_
      clear hKa Ka
      try simp only [Act.put, List.setIfInBounds_toArray, List.set_cons_zero, List.set_cons_succ]
      refine wpAnyL_one (i := 27) (by kernel_rfl) rfl (fun Ka hKa => ?_)
      go_simp
      refine hKa.out _ _ (fun h => absurd h (Bool.eq_false_iff.1 (by kernel_rfl))) ?_
      clear hKa Ka
      try simp only [Act.put, List.setIfInBounds_toArray, List.set_cons_zero, List.set_cons_succ]
      have hbox := vblk_set (i := 3) (.slice a66 1 c66) hbox
      have q4 : (((w67).setCell ⟨b, 0, none⟩ (.slice a65 1 c65)).setCell ⟨b, 3, none⟩ (.slice a66 1 c66)).cell? ⟨b, 4, none⟩ = some (.slice none 0 0) := by simp [World.cell?, hbox]
      have z4 : (((w67).setCell ⟨b, 0, none⟩ (.slice a65 1 c65)).setCell ⟨b, 3, none⟩ (.slice a66 1 c66)).frozen? ⟨b, 4, none⟩ = false := hfree hbox 4
      refine wpAnyL_one (i := 28) (by kernel_rfl) rfl (fun Ka hKa => ?_)
      go_simp
      refine hKa.out _ _ (fun h => absurd h (Bool.eq_false_iff.1 (by kernel_rfl))) ?_
      clear hKa Ka
      try simp only [Act.put, List.setIfInBounds_toArray, List.set_cons_zero, List.set_cons_succ]
      refine wpAnyL_one (i := 29) (by kernel_rfl) rfl (fun Ka hKa => ?_)
      go_simp
      refine hKa.out _ _ (fun h => absurd h (Bool.eq_false_iff.1 (by kernel_rfl))) ?_
      clear hKa Ka
      try simp only [Act.put, List.setIfInBounds_toArray, List.set_cons_zero, List.set_cons_succ]
      refine wpAnyL_one (i := 30) (by kernel_rfl) rfl (fun Ka hKa => ?_)
      go_simp
      refine hKa.out _ _ (fun h => absurd h (Bool.eq_false_iff.1 (by kernel_rfl))) ?_
      clear hKa Ka
      try simp only [Act.put, List.setIfInBounds_toArray, List.set_cons_zero, List.set_cons_succ]
      refine wpAnyL_done (by kernel_rfl) ?_ _
      have hF := FIN.out _ _ _ _ _ Gw67.out rfl
      generalize hWz : World.setCell _ _ _ = Wz
      first | rw [hWz] at hF | (simp only [List.nil_append, List.length_cons, List.length_nil] at hF; rw [hWz] at hF)
      have HF : Hid _ := hF
      clear hF hWz hbox q0 z0 q3 z3 q4 z4
      go_wp2
      rw [rounds_succ]
      go_wp2
      go_ret2
      obtain ⟨S, g, c0, gh, c1, h1, h2, h3, h4, h5, h6⟩ := HF.out
      rw [HMA.out]
      exact ⟨S, b, p, g, c0, gh, c1, ma, _, rfl, h1, h2, h3, h4, h5, h6⟩
end Go.Proofs.Ytiodepmioglfpaa
