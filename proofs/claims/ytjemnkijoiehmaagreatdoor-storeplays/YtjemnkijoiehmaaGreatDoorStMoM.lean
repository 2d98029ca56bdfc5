import Derived.Test.YtjemnkijoiehmaaGreatDoorGrDataM
import Derived.Shelf.AbstractIn
import Derived.Laws.IdiomRangeMap
import Derived.Laws.Bits64
import Derived.Test.YtjemnkijoiehmaaGreatDoorStKM
import Derived.Test.YtjemnkijoiehmaaGreatDoorStFM
import Derived.Test.YtjemnkijoiehmaaGreatDoorStMapM
section
/- What an iterator that leaves the rounds' blocks alone keeps. -/
namespace Go.Proofs.YtjemnkijoiehmaaGreatDoor
open Go.RowKit
/-- The iterator's own blocks lie as they lay, and are not the rounds'. -/
structure Ow (W wr : World) (O T : Nat → Prop) : Prop where
  fr : Fr W wr (fun k => ¬ O k)
  off : ∀ k, O k → ¬ T k
  inn : ∀ k, T k → k < wr.heap.size
section
variable {W wr w' : World} {O T T' : Nat → Prop}
theorem Ow.new (h : Ow W wr O T) (hb : Below wr.heap.size wr w') : Ow W w' O T := ⟨h.fr.trans (Fr.ofBelow hb (fun _ => False)) (fun _ _ h => h.elim), h.off, fun k hk => Nat.lt_of_lt_of_le (h.inn k hk) hb.size⟩
theorem Ow.round (h : Ow W wr O T) (hO : ∀ k, O k → k < W.heap.size) (f : Fr wr w' T) (g : Grows wr w' T T') : Ow W w' O T' :=
  ⟨h.fr.trans f (fun k _ ht ho => h.off k ho ht), fun k ho ht => (g k ht).elim (h.off k ho) (fun hk => by have := hO k ho; have := h.fr.size; omega), fun k hk => (g k hk).elim (fun h' => Nat.lt_of_lt_of_le (h.inn k h') f.size) (fun h' => h'.2)⟩
theorem Ow.cell (h : Ow W wr O T) {b o : Nat} {u : Value} (hb : O b) (hc : W.cell? ⟨b, o, none⟩ = some u) : wr.cell? ⟨b, o, none⟩ = some u := fr_cell h.fr (fun hn => hn hb) hc
/-- A block of the iterator's own stays behind a round. -/
theorem Ow.keep {b : Nat} {o : Obj} (hb : wr.heap[b]? = some o) (hT : ¬ T b) (f : Fr wr w' T) (g : Grows wr w' T T') : w'.heap[b]? = some o ∧ ¬ T' b :=
  ⟨(f.block b (Array.getElem?_eq_some_iff.1 hb).1 hT).trans hb, fun h => (g b h).elim hT (fun h' => by have := (Array.getElem?_eq_some_iff.1 hb).1; omega)⟩
end
end Go.Proofs.YtjemnkijoiehmaaGreatDoor
end

section
/- store: Numbers: all numbers that have a text, rising, gone over by a function. -/
namespace Go.Proofs.YtjemnkijoiehmaaGreatDoor
open Go.RowKit Go.Maps Go.Sort Go.Shelf
attribute [local go_sem] Oper.semAt_some
variable {Xm : Nat → Prop}
def encI (x : Int) : Array Value := #[.int .i64 x]
set_option maxRecDepth 100000 in
set_option maxHeartbeats 4000000 in
theorem values_T (Bs : Nat) (ao : Option Addr) (cap : Nat) (R : List Int) (hR : R.length ≤ 1000000) (w : World) (O : Nat → Prop) (hO : ∀ k, O k → k < w.heap.size) (hBs : w.cell? ⟨Bs, 0, none⟩ = some (.slice ao R.length cap))
    (hrow : 0 < R.length → ∃ b off, ao = some ⟨b, off, none⟩ ∧ O b ∧ ∀ j (h : j < R.length), w.cell? ⟨b, off + j, none⟩ = some (.int .i64 R[j])) :
    SeqT Tryz.prog 61 #[.pointer (some ⟨Bs, 0, none⟩)] encI (fun _ _ _ => True) (fun ys => ys = R) (fun pre => pre <+: R) O w := by
  intro l J Jx T0 W hW hl1 hl2 hT0 hJ hJx hY h0
  have hBs' := (hW.cell (p := ⟨Bs, 0, none⟩) (glt_cell hBs)).trans hBs
  have HRow : Hid (0 < R.length → ∃ b off, ao = some ⟨b, off, none⟩ ∧ O b ∧ ∀ j (h : j < R.length), W.cell? ⟨b, off + j, none⟩ = some (.int .i64 R[j])) := fun h => by
    obtain ⟨b, off, e, hb, hc⟩ := hrow h
    exact ⟨b, off, e, hb, fun j hj => (hW.cell (p := ⟨b, off + j, none⟩) (glt_cell (hc j hj))).trans (hc j hj)⟩
  have hO' : ∀ k, O k → k < W.heap.size := fun k hk => Nat.lt_of_lt_of_le (hO k hk) hW.size
  have hw0 : Ow W W O T0 := ⟨Fr.refl _ _, fun k ho ht => (hT0 k ht).2 ho, fun k hk => (hT0 k hk).1⟩
  clear hBs hT0 hO hrow
  refine (callsIn_wide (n := 9)).1 ?_
  refine callsIn_of_wp Tryz.func61 rfl trivial ?_ rfl
  simp only [Tryz.ntmps61, List.size_toArray, List.length_cons, List.length_nil, Nat.reduceAdd, Nat.reduceSub, Array.replicate_succ, Array.replicate_zero, List.push_toArray, List.append_toArray, List.nil_append, List.cons_append]
  gi_wp2
  gi_loopw [4, 7] (fun _ i wr => ∃ (k : Nat) (T : Nat → Prop), k ≤ R.length ∧ i = .int .i64 k ∧ J (R.take k) T wr ∧ Ow W wr O T) (fun _ i _ => R.length - (intOf i).toNat)
  case atStart => exact ⟨0, T0, Nat.zero_le _, rfl, h0, hw0⟩
  case round =>
    obtain ⟨k, T, hk, rfl, hJs, hnx⟩ := hrel
    by_cases hlt : k < R.length
    · obtain ⟨b, off, rfl, hb, hc⟩ := HRow.out (by omega)
      have d0 := hnx.cell hb (hc k hlt)
      have HS : Hid (R.take (k + 1) = R.take k ++ [R[k]]) := List.take_succ_eq_append_getElem hlt
      have HPre : Hid (R.take k ++ [R[k]] <+: R) := by have := List.take_prefix (k + 1) R; rw [HS.out] at this; exact this
      clear hc
      generalize R[k] = y at d0 HS HPre
      obtain ⟨fn, tmps, assign, body, hy, hR2⟩ := hY _ T y wr hJs trivial HPre.out (9 - 1)
      dsimp only [encI] at hy
      gi_wp2
      refine hR2.mono ?_
      rintro e W3 ⟨T2, hg3, (⟨rfl, f3, hJ3⟩ | ⟨rfl, f3, hJx3⟩)⟩
      · have hnl : Ow W W3 O T2 := hnx.round hO' f3 hg3
        gi_wp2
        go_roundw
        case rel => exact ⟨k + 1, T2, by omega, by go_num, by rw [HS.out]; exact hJ3, hnl⟩
        case measure => simp [intOf]; omega
      · gi_wp2
        refine bodyPost_ret (results_none rfl _ _ _) rfl ?_
        exact ⟨⟨_, rfl⟩, .inr ⟨_, T2, HPre.out, hJx3⟩⟩
    · obtain rfl : k = R.length := by omega
      gi_wp2
      go_end0
      rw [List.take_length] at hJs
      exact ⟨⟨_, rfl⟩, .inl ⟨R, T, rfl, hJs⟩⟩
theorem sorted_keys {α : Type} {f : Int → Option α} {ss : List Int} (h : ss.Perm (keysO f)) : ss.mergeSort (fun x y => decide (x ≤ y)) = keysO f := by
  have hp := List.mergeSort_perm ss (fun x y : Int => decide (x ≤ y))
  refine List.Perm.eq_of_pairwise (le := fun a b => decide (a ≤ b) = true) (fun a b _ _ h1 h2 => ?_) (List.pairwise_mergeSort (fun a b c h1 h2 => ?_) (fun a b => ?_) ss) ?_ (hp.trans h)
  · simp at h1 h2; omega
  · simp at h1 h2 ⊢; omega
  · simp; omega
  · exact List.Pairwise.imp (fun h => by simp; omega) keysO_sort
theorem st_sortsI (m : Nat) : AnyZI.SortsIn Tryz.prog laySortedI_ren Fence.wide m :=
  ⟨fun blk off cap ss W hH hblk hsz => callsIn_wide.2 (AnyM.slices_Sort_int laySortInt blk off cap ss W hH hblk hsz),
   fun p cap W => callsIn_wide.2 (AnyM.slices_Sort_int_none laySortInt p cap W)⟩
/-- The numbers as they are handed out: a box that holds a row of them. -/
structure NumAt (w' : World) (C bo : Nat) (R : List Int) : Prop where
  low : C ≤ bo
  row : ∃ ao cap, w'.cell? ⟨bo, 0, none⟩ = some (.slice ao R.length cap) ∧ (0 < R.length → ∃ b off, ao = some ⟨b, off, none⟩ ∧ C ≤ b ∧ ∀ j (h : j < R.length), w'.cell? ⟨b, off + j, none⟩ = some (.int .i64 R[j]))
theorem svalues (v : Value) (w : World) (hv : ∃ ao n c, v = .slice ao n c) : Calls Tryz.prog 39 #[v] w fun r w' => r = .returned (.func (.func 61) #[] #[.pointer (some ⟨w.heap.size, 0, none⟩)]) ∧ w' = w.alloc (.cells #[v] 31) := by
  obtain ⟨ao, n, c, rfl⟩ := hv
  go_enter Tryz.func39, Tryz.ntmps39
  go_wp2
  go_ret
  exact ⟨rfl, rfl⟩
theorem numat_of {w' : World} {C : Nat} {v : Value} {R : List Int} (h : NrO w' C v R) : NumAt (w'.alloc (.cells #[v] 31)) C w'.heap.size R ∨ w'.heap.size < C := by
  by_cases hC : C ≤ w'.heap.size
  · refine .inl ⟨hC, ?_⟩
    have hc : (w'.alloc (.cells #[v] 31)).cell? ⟨w'.heap.size, 0, none⟩ = some v := cell_blk (heap_alloc_new _ _)
    rcases h with ⟨rfl, rfl⟩ | ⟨g, off, cap, rfl, h1, _, _, _, h2⟩
    · exact ⟨none, 0, hc, fun h => absurd h (by simp)⟩
    · exact ⟨_, _, hc, fun _ => ⟨g, off, rfl, h1, fun j hj => gnew_cell (gone_new _ _) (h2 j hj)⟩⟩
  · exact .inr (by omega)
set_option maxRecDepth 100000 in
set_option maxHeartbeats 1000000 in
theorem snumbers {w : World} {B q p c : Nat} {K : St} (h : SA Xm w B q p K c) : Calls Tryz.prog 23 #[.pointer (some ⟨q, 0, none⟩)] w fun r w' => ∃ bo, r = .returned (.func (.func 61) #[] #[.pointer (some ⟨bo, 0, none⟩)]) ∧ NumAt w' w.heap.size bo (keysO K.f) ∧ Below w.heap.size w w' := by
  obtain ⟨A, mb, mv, h⟩ := h
  have c2 := h.blk.cells.2.2.1
  have htx := h.tx
  have hlen := keysO_len (f := K.f)
  have hkk : keysO (heldO K.f K.near) = keysO K.f := keysO_of (fun x => heldO_some x)
  have HV : Hid (∀ w1 v, IO_ w1 w.heap.size v (keysO K.f) → Below w.heap.size w w1 → (∃ ao n c, v = .slice ao n c) ∧ NumAt (w1.alloc (.cells #[v] 31)) w.heap.size w1.heap.size (keysO K.f) ∧ Below w.heap.size w (w1.alloc (.cells #[v] 31))) := fun w1 v hv hb => by
    have hn := io_nro hv
    obtain ⟨ao, c, e⟩ := hn.shape
    refine ⟨⟨_, _, _, e⟩, (numat_of hn).resolve_right (by have := hb.size; omega), hb.trans ((gone_new _ _).mono hb.size)⟩
  clear h
  cases mb with
  | some b =>
    obtain ⟨D0, nn, hown, hm⟩ := htx
    have hperm := hm.perm hown
    have hsz := hm.size hown
    rw [hkk] at hperm hsz
    have HP : Hid (∀ ss : List Int, ss.Perm (intKeys D0) → ss.mergeSort (fun x y => decide (x ≤ y)) = keysO K.f ∧ ss.length = (keysO K.f).length) := fun ss hss => by
      have hp := hss.trans hperm.symm
      exact ⟨sorted_keys hp, hp.length_eq⟩
    refine (callsIn_wide (n := 6)).1 ?_
    have hbl := hown.lt
    have hseq : SeqGives Fence.wide 2 Tryz.prog 64 #[.pointer (some ⟨w.heap.size, 0, none⟩)] encZ (fun ss => ss.Perm (intKeys D0)) (Maps.size D0) (w.alloc (.cells #[.map (some b)] 47)) :=
      AnyZI.keys_gives (ρ := layKeysH_ren) { layKeysH with } Fence.wide _ trivial rfl (by omega) w.heap.size b nn D0 _ (by simp) (by simp) (by
        obtain ⟨es, clock, hb, Ft, hs, hD⟩ := hown
        exact ⟨es, clock, (Below.heap_alloc _ _ b hbl).trans hb, Ft, hs, hD⟩)
    have cK : ∀ mb W, CallsIn Fence.wide 5 Tryz.prog 41 #[.map mb] W fun e w' => e = .returned (.func (.func 64) #[] #[.pointer (some ⟨W.heap.size, 0, none⟩)]) ∧ w' = W.alloc (.cells #[.map mb] 47) := fun mb W => AnyZI.keys_in layKeysH Fence.wide 5 trivial rfl mb W
    have cS := AnyZI.sorted_in laySortedI Fence.wide 5 trivial trivial trivial trivial rfl (by omega) (st_sortsI _) (enters_of Tryz.func63 (by kernel_rfl) rfl) 64 #[.pointer (some ⟨w.heap.size, 0, none⟩)] trivial (enters_of Tryz.func64 (by kernel_rfl) rfl) _ _ (by rw [hsz]; unfold maxLen; omega) (by rw [hsz]; omega) _ hseq
    change CallsIn _ _ Tryz.prog 40 _ _ _ at cS
    have hfK : Fence.wide.fn 41 := trivial
    have hfS : Fence.wide.fn 40 := trivial
    have hfV : Fence.wide.fn 39 := trivial
    clear hperm hsz hown hm hseq hkk hlen
    refine callsIn_of_wp Tryz.func23 rfl trivial ?_ rfl
    simp only [Tryz.ntmps23, List.size_toArray, List.length_cons, List.length_nil, Nat.reduceAdd, Nat.reduceSub, Array.replicate_succ, Array.replicate_zero, List.push_toArray, List.append_toArray, List.nil_append, List.cons_append]
    gi_wp2_with (first
      | (gi_at_call 41; refine (cK _ _).mono ?_; rintro e w' ⟨rfl, rfl⟩)
      | (gi_at_call 40; refine cS.mono ?_; rintro e w1 ⟨v, ss, rfl, hS, hrow, hnil, hb⟩; obtain ⟨e1, e2⟩ := HP.out ss hS; rw [e1, e2] at hrow; have hz := HV.out w1 v ((io_iff.2 hrow).lower (by simp)) (((Below.refl _ w).alloc (Nat.le_refl _) _).trans (hb.mono (by simp))); obtain ⟨z1, z2⟩ := hz; have HZ : Hid _ := z2; clear z2 hrow hb hnil hS e1 e2 cS)
      | (gi_at_call 39; refine (callsIn_wide.2 (svalues v w1 z1)).mono ?_; rintro e w2 ⟨rfl, rfl⟩))
    go_ret
    exact ⟨_, rfl, HZ.out.1, HZ.out.2⟩
  | none =>
    have hM : heldO K.f K.near = noneO := htx
    have hke : keysO K.f = [] := by rw [← hkk, hM]; exact keysO_none
    rw [hke] at HV ⊢
    refine (callsIn_wide (n := 6)).1 ?_
    have hseq : SeqGives Fence.wide 2 Tryz.prog 64 #[.pointer (some ⟨w.heap.size, 0, none⟩)] encZ (fun ss : List Int => ss = []) 0 (w.alloc (.cells #[.map none] 47)) :=
      AnyZI.keys_gives_nil (ρ := layKeysH_ren) { layKeysH with } Fence.wide _ trivial rfl w.heap.size _ (by simp) (by simp)
    have cK : ∀ mb W, CallsIn Fence.wide 5 Tryz.prog 41 #[.map mb] W fun e w' => e = .returned (.func (.func 64) #[] #[.pointer (some ⟨W.heap.size, 0, none⟩)]) ∧ w' = W.alloc (.cells #[.map mb] 47) := fun mb W => AnyZI.keys_in layKeysH Fence.wide 5 trivial rfl mb W
    have cS := AnyZI.sorted_in laySortedI Fence.wide 5 trivial trivial trivial trivial rfl (by omega) (st_sortsI _) (enters_of Tryz.func63 (by kernel_rfl) rfl) 64 #[.pointer (some ⟨w.heap.size, 0, none⟩)] trivial (enters_of Tryz.func64 (by kernel_rfl) rfl) _ 0 (by unfold maxLen; omega) (by omega) _ hseq
    change CallsIn _ _ Tryz.prog 40 _ _ _ at cS
    have hfK : Fence.wide.fn 41 := trivial
    have hfS : Fence.wide.fn 40 := trivial
    have hfV : Fence.wide.fn 39 := trivial
    clear hM hke hseq hkk hlen htx
    refine callsIn_of_wp Tryz.func23 rfl trivial ?_ rfl
    simp only [Tryz.ntmps23, List.size_toArray, List.length_cons, List.length_nil, Nat.reduceAdd, Nat.reduceSub, Array.replicate_succ, Array.replicate_zero, List.push_toArray, List.append_toArray, List.nil_append, List.cons_append]
    gi_wp2_with (first
      | (gi_at_call 41; refine (cK _ _).mono ?_; rintro e w' ⟨rfl, rfl⟩)
      | (gi_at_call 40; refine cS.mono ?_; rintro e w1 ⟨v, ss, rfl, rfl, hrow, hnil, hb⟩; obtain rfl : v = .slice none 0 0 := hnil.2 rfl; have hz := HV.out w1 (.slice none 0 0) (GO.nil _ _ _ _ _) (((Below.refl _ w).alloc (Nat.le_refl _) _).trans (hb.mono (by simp))); obtain ⟨z1, z2⟩ := hz; have HZ : Hid _ := z2; clear z2 hrow hb hnil cS)
      | (gi_at_call 39; refine (callsIn_wide.2 (svalues _ w1 z1)).mono ?_; rintro e w2 ⟨rfl, rfl⟩))
    go_ret
    exact ⟨_, rfl, HZ.out.1, HZ.out.2⟩
end Go.Proofs.YtjemnkijoiehmaaGreatDoor
end

section
/- store: Drop. -/
namespace Go.Proofs.YtjemnkijoiehmaaGreatDoor
open Go.RowKit Go.Maps
variable {Xm : Nat → Prop}
attribute [local go_sem] Oper.semAt_some
section
variable {w W1 W2 W3 : World} {B q p c b : Nat} {K : St} {A : Dk} {mb : Option Nat} {mv v' : Value} {n : Int}
theorem drop_tail (h : SA0 Xm w B q p K A c (some b) mv) (hB : B ≤ w.heap.size) (h0 : 0 ≤ n) (h1 : n < 16)
    (hb1 : Below w.heap.size w W1) (h2 : IMp lvH W2 b (cutO' (heldO K.f K.near) n)) (f2 : Fr W1 W2 (fun k => k = b)) (f3 : Below W2.heap.size W2 W3) (hv : NrO W3 W2.heap.size v' (woI K.near n)) :
    SA0 Xm (W3.setCell ⟨q, 3, none⟩ v') B q p (K.drop n) A c (some b) v' ∧ FrT Xm B w (W3.setCell ⟨q, 3, none⟩ v') := by
  have h1' := h.new hb1
  have hm1 : IMp lvH W1 b (heldO K.f K.near) := h1'.tx
  have hqb : q ≠ b := fun e => by
    obtain ⟨es, c', hm⟩ := hm1.isMap
    rw [← e, h1'.blk] at hm
    cases hm
  have bl2 : StBl W2 q p K.bud K.sp (some b) mv := (f2.block q (lt_blk h1'.blk) hqb).trans h1'.blk
  have bl3 := bl2.new f3
  have dk2 := h1'.dk.kept f2 (fun k e => .inr (by rw [e]))
  have dk3 := dk2.new f3
  have m3 := h2.new f3
  generalize hS1 : W3.setCell ⟨q, 3, none⟩ v' = w6
  have f6 : Fr W3 w6 (fun k => k = q) := by rw [← hS1]; exact Fr.setCell (S := fun k => k = q) W3 ⟨q, 3, none⟩ _ rfl
  have bl6 : StBl w6 q p K.bud K.sp (some b) v' := by rw [← hS1]; exact blk_set (i := 3) v' bl3
  have hqv : ¬ v'.ownBlock = some q := fun e => by
    obtain ⟨_, c', f, hm⟩ := hv.tag e
    rw [bl3] at hm
    cases hm
  have hs : w.heap.size ≤ W2.heap.size := Nat.le_trans hb1.size f2.size
  have dk6 := st_dkkeep dk3 f6 (fun k hk => by rw [hk]; exact ⟨_, _, _, bl3, by decide, by decide⟩)
  have m6 := m3.kept f6 (fun e => hqb e.symm)
  have r6 := hv.kept f6 (fun k hk e => hqv (by rw [← e]; exact hk))
  refine ⟨⟨bl6, ?_, r6.low (Nat.le_trans hB hs), dk6, h.di, h.ok.drop, (drop_files h.ok h.dk.sort h0 h1 h.fl).1, h.hq, h.hm, h.nq, h.nm, fun k e hx => ?_⟩, ?_⟩
  · show IMp lvH w6 b _
    rw [← drop_held]
    exact m6
  · have := h.lx k hx
    have := (hv.tag e).1
    omega
  · have g1 : FrT Xm B w W2 := (FrT.new hb1).trans (Fr.mono f2 (fun k _ e => by rw [e]; exact ⟨h.hm b rfl, .inl hm1.isMap, h.nm b rfl⟩))
    refine (g1.trans (FrT.new f3)).trans (Fr.mono f6 (fun k _ e => ?_))
    rw [e]
    exact ⟨h.hq, .inr ⟨_, _, _, bl3, .inr (.inr rfl)⟩, h.nq⟩
/-- The file goes, too, if there is one. -/
theorem sremove (h : SA0 Xm w B q p (K.drop n) A c mb mv) (hB : B ≤ w.heap.size) (hc : c ≤ 900000) (h0 : 0 ≤ n) (h1 : n < 16) (hk : K.ok) (hf : Files K A) : Calls Tryz.prog 21 #[.pointer (some ⟨p, 0, none⟩), .string (str (fnm n))] w fun r w' => ∃ er : Int, r = .returned (.int .i64 er) ∧ SA Xm w' B q p (K.drop n) (c + 1) ∧ FrT Xm B w w' := by
  have hs := h.dk.sort
  obtain ⟨mn, ms, lv, hA⟩ := h.dk
  cases hg : (getF (fnm n) A.now).isSome with
  | true =>
    refine Calls.mono (remove_ok hA hB (quiet_nil h.di.pv) h.di.dead (fnm_ok h0 h1) hg (h.di.bd (by omega) 3 (Nat.zero_le _))) ?_
    rintro r w' ⟨rfl, h2, h3⟩
    exact ⟨0, rfl, ⟨_, mb, mv, h.blk.frD h3, h.tx.kept h3 (fun k e s => s.2.2 (.inr e)), NrO.frD h.mem h3, h2, h.di.remove, h.ok, (drop_files hk hs h0 h1 hf).2, h.hq, h.hm, h.nq, h.nm, h.nv⟩, h3.toT (fun _ => .inl)⟩
  | false =>
    have hR := read_ok (nm := fnm n) (er := 2) hA h.di.dead (fnm_ok h0 h1) (by rw [hg]; rfl)
    refine Calls.mono (remove_err _ (by decide) hR) ?_
    rintro r w' ⟨rfl, h2⟩
    exact ⟨2, rfl, SA.mono ⟨A, mb, mv, h.new h2⟩ (Nat.le_succ _), FrT.new h2⟩
set_option linter.unusedSimpArgs false in
set_option maxRecDepth 100000 in
set_option maxHeartbeats 2000000 in
theorem sdrop_some {s : Bs} (h : SA Xm w B q p K c) (hB : B ≤ w.heap.size) (hc : c ≤ 900000) (hf : K.f n = some s) : Calls Tryz.prog 9 #[.pointer (some ⟨q, 0, none⟩), .int .i64 n] w fun r w' => r = .returned (.bool true) ∧ SA Xm w' B q p (K.drop n) (c + 1) ∧ FrT Xm B w w' := by
  obtain ⟨A, mb, mv, h⟩ := h
  have hr := h.ok.sup n (by rw [hf]; rfl)
  have h0 := hr.1
  have h1 := hr.2
  obtain ⟨b, rfl⟩ : ∃ b, mb = some b := by
    cases mb with
    | none =>
      have e : heldO K.f K.near = noneO := h.tx
      have e2 := heldO_some (f := K.f) (near := K.near) n
      rw [e, hf] at e2
      cases e2
    | some b => exact ⟨b, rfl⟩
  have HH : Hid (SA0 Xm w B q p K A c (some b) mv) := h
  have hlk := h.tx.lookOk mtH (i6_few h0 h1)
  rw [heldO_some, hf] at hlk
  obtain ⟨⟨t, a, u⟩, hhd⟩ : ∃ y : Hd, ((heldO K.f K.near n).map lvH).getD zvH = lvH y := by
    cases heldO K.f K.near n with
    | none => exact ⟨⟨[], false, 0⟩, rfl⟩
    | some y => exact ⟨y, rfl⟩
  rw [hhd] at hlk
  simp only [lvH, Option.isSome_some] at hlk
  have c2 := h.blk.cells.2.2.1
  have HB : Hid (B ≤ w.heap.size) := hB
  have HC : Hid (c ≤ 900000) := hc
  clear h hB hc hf hr hhd
  go_enter Tryz.func9, Tryz.ntmps9
  go_upto_region 4 with (refine wpList_store_row rfl 59 _ _ rfl _ #[.string (str t), .bool a, .int .u32 u] rfl rfl 59 #[.string (str []), .bool false, .int .u32 0] (heap_alloc_new _ _) size_held rfl (by simp [Value.oneCell']) ?_)
  generalize hW : World.setRow _ _ _ = W1
  have HB1 : Hid (Below w.heap.size w W1) := by
    show Below _ _ _
    rw [← hW]
    exact ((Fr.alloc w _ (fun _ => False)).trans (st_setRow _ _ _) (fun i hi e => absurd e (by omega))).below (Nat.le_refl _) (fun _ h => h.elim)
  clear hW c2 hlk
  generalize w.heap.size = hb
  have HH1 : Hid (SA0 Xm W1 B q p K A c (some b) mv) := HH.out.new HB1.out
  have c2 := HH1.out.blk.cells.2.2.1
  have htx : IMp lvH W1 b (heldO K.f K.near) := HH1.out.tx
  obtain ⟨W2, hrun, hm2, hf2⟩ := htx.del mtH (i6_few h0 h1) 0
  have HM2 : Hid (IMp lvH W2 b (cutO' (heldO K.f K.near) n)) := hm2
  have HF2 : Hid (Fr W1 W2 (fun k => k = b)) := hf2
  have hbl2 : StBl W2 q p K.bud K.sp (some b) mv := (hf2.block q (lt_blk HH1.out.blk) (fun e => by
    obtain ⟨es, c', hm⟩ := htx.isMap
    rw [← e, HH1.out.blk] at hm
    cases hm)).trans HH1.out.blk
  have HBl2 : Hid (StBl W2 q p K.bud K.sp (some b) mv) := hbl2
  have hv2 : NrO W2 B mv K.near := HH1.out.mem.kept hf2 (fun k e e2 => by
    obtain ⟨es, c', hm⟩ := htx.isMap
    obtain ⟨_, c'', f'', hm'⟩ := HH1.out.mem.tag e
    rw [e2, hm] at hm'
    cases hm')
  have hWo := swithout (n := n) hv2.toS (by have := HH.out.ok.few; omega)
  clear htx hm2 hf2 hbl2 hv2
  go_upto_region 7 with (fail)
  obtain ⟨d0, d1, d2, d3, d4⟩ := HBl2.out.cells
  clear hrun c2
  go_upto_region 8 with (go_at_call 20; refine Calls.mono hWo ?_; rintro r W3 ⟨v3, rfl, e1, e2⟩; obtain ⟨a3, l3, k3, rfl⟩ : ∃ a l c, v3 = .slice a l c := (by obtain ⟨a, c, e⟩ := e1.shape; exact ⟨a, _, c, e⟩); have HV3 : Hid (NrO W3 W2.heap.size (.slice a3 l3 k3) (woI K.near n)) := e1; have HF3 : Hid (Below W2.heap.size W2 W3) := e2; have b3 := HBl2.out.new e2; have x3 := b3.cells.2.2.2.1; have g3 := b3.free 3; clear e1 e2 b3 hWo d0 d1 d2 d3 d4)
  clear x3 g3
  have hT := drop_tail HH.out HB.out h0 h1 HB1.out HM2.out HF2.out HF3.out HV3.out
  generalize W3.setCell ⟨q, 3, none⟩ (.slice a3 l3 k3) = W4 at hT ⊢
  have HT : Hid (SA0 Xm W4 B q p (K.drop n) A c (some b) (.slice a3 l3 k3)) := hT.1
  have HF : Hid (FrT Xm B w W4) := hT.2
  clear hT
  obtain ⟨Wd, hWd⟩ : ∃ Wd, W4.drew = Wd := ⟨_, rfl⟩
  have bd : Below W4.heap.size W4 Wd := by rw [← hWd]; exact Below.drew (Below.refl _ _)
  have HTd : Hid (SA0 Xm Wd B q p (K.drop n) A c (some b) (.slice a3 l3 k3)) := HT.out.new bd
  have HFd : Hid (FrT Xm B w Wd) := HF.out.trans (FrT.new bd)
  have hRm := sremove HTd.out (Nat.le_trans HB.out HFd.out.size) HC.out h0 h1 HH.out.ok HH.out.fl
  have hS : Wd.cell? ⟨q, 0, none⟩ = some (.pointer (some ⟨p, 0, none⟩)) := HTd.out.blk.cells.1
  have hN := fun W => sname h0 h1 W
  clear bd
  refine wp_calmD ?_
  refine wp_region_L [6] (fun W : World => W.cell? ⟨q, 0, none⟩ = some (.pointer (some ⟨p, 0, none⟩))) (by kernel_rfl) ?_
  rw [hWd]
  clear hWd
  refine wpAnyL_take (i := 0) 34 (v := .pointer (some ⟨q, 0, none⟩)) rfl rfl (by kernel_rfl) (by kernel_rfl) (by kernel_rfl) (by kernel_rfl) (by kernel_rfl) (by kernel_rfl) (fun _ _ _ h => h) hS (by rfl) (by intro w' hSw; have y0 := hSw; go_simp <;> with_reducible rfl) ?_
  simp only [Act.put, List.setIfInBounds_toArray, List.set_cons_zero, List.set_cons_succ]
  refine wpAnyL_take (i := 1) 35 (v := .pointer (some ⟨q, 0, none⟩)) rfl rfl (by kernel_rfl) (by kernel_rfl) (by kernel_rfl) (by kernel_rfl) (by kernel_rfl) (by kernel_rfl) (fun _ _ _ h => h) hS (by rfl) (by intro w' hSw; have y0 := hSw; go_simp <;> with_reducible rfl) ?_
  simp only [Act.put, List.setIfInBounds_toArray, List.set_cons_zero, List.set_cons_succ]
  refine wpAnyL_take (i := 2) 36 (v := .pointer (some ⟨q, 0, none⟩)) rfl rfl (by kernel_rfl) (by kernel_rfl) (by kernel_rfl) (by kernel_rfl) (by kernel_rfl) (by kernel_rfl) (fun _ _ _ h => h) hS (by rfl) (by intro w' hSw; have y0 := hSw; go_simp <;> with_reducible rfl) ?_
  simp only [Act.put, List.setIfInBounds_toArray, List.set_cons_zero, List.set_cons_succ]
  refine wpAnyL_take (i := 3) 37 (v := .pointer (some ⟨p, 0, none⟩)) rfl rfl (by kernel_rfl) (by kernel_rfl) (by kernel_rfl) (by kernel_rfl) (by kernel_rfl) (by kernel_rfl) (fun _ _ _ h => h) hS (by rfl) (by intro w' hSw; have y0 := hSw; go_simp <;> with_reducible rfl) ?_
  simp only [Act.put, List.setIfInBounds_toArray, List.set_cons_zero, List.set_cons_succ]
  refine wpAnyL_take (i := 4) 38 (v := .int .i64 n) rfl rfl (by kernel_rfl) (by kernel_rfl) (by kernel_rfl) (by kernel_rfl) (by kernel_rfl) (by kernel_rfl) (fun _ _ _ h => h) hS (by rfl) (by intro w' hSw; have y0 := hSw; go_simp <;> with_reducible rfl) ?_
  simp only [Act.put, List.setIfInBounds_toArray, List.set_cons_zero, List.set_cons_succ]
  refine wpAnyL_one (i := 5) (by kernel_rfl) rfl (fun Ka hKa => ?_)
  go_simp
  refine Calls.mono (hN _) ?_
  rintro r w5 ⟨rfl, hw5⟩
  rw [hw5]
  refine hKa.out _ _ (fun _ => hS) ?_
  clear hKa Ka hw5
  try simp only [Act.put, List.setIfInBounds_toArray, List.set_cons_zero, List.set_cons_succ]
  refine wpAnyL_one (i := 6) (by kernel_rfl) rfl (fun Ka hKa => ?_)
  go_simp
  refine Calls.mono hRm ?_
  rintro r w6 ⟨er, rfl, e1, e2⟩
  have E1 : Hid (SA Xm w6 B q p (K.drop n) (c + 1)) := e1
  have E2 : Hid (FrT Xm B Wd w6) := e2
  refine hKa.out _ _ (fun h => absurd h (Bool.eq_false_iff.1 (by kernel_rfl))) ?_
  clear hKa Ka e1 e2 hRm hS hN
  try simp only [Act.put, List.setIfInBounds_toArray, List.set_cons_zero, List.set_cons_succ]
  refine wpAnyL_done (by kernel_rfl) ?_ _
  go_wp2
  go_ret
  exact ⟨rfl, E1.out, HFd.out.trans E2.out⟩
set_option maxRecDepth 100000 in
theorem sdrop_none (h : SA Xm w B q p K c) (hi : I6 n) (hf : K.f n = none) : Calls Tryz.prog 9 #[.pointer (some ⟨q, 0, none⟩), .int .i64 n] w fun r w' => r = .returned (.bool false) ∧ Below w.heap.size w w' := by
  obtain ⟨A, mb, mv, h⟩ := h
  have hlk := h.tx.lookOk mtH hi
  rw [heldO_some, hf, heldO_none hf] at hlk
  change _ = Result.ok (Value.tuple #[.agg #[.string (str []), .bool false, .int .u32 0], .bool false]) w at hlk
  have c2 := h.blk.cells.2.2.1
  clear h hf
  go_enter Tryz.func9, Tryz.ntmps9
  go_upto_region 4 with (refine wpList_store_row rfl 59 _ _ rfl _ #[.string (str []), .bool false, .int .u32 0] rfl rfl 59 #[.string (str []), .bool false, .int .u32 0] (heap_alloc_new _ _) size_held rfl (by simp [Value.oneCell']) ?_)
  generalize hW : World.setRow _ _ _ = W1
  have HB1 : Hid (Below w.heap.size w W1) := by
    show Below _ _ _
    rw [← hW]
    exact ((Fr.alloc w _ (fun _ => False)).trans (st_setRow _ _ _) (fun i hi e => absurd e (by omega))).below (Nat.le_refl _) (fun _ h => h.elim)
  clear hW c2 hlk
  go_wp2
  go_ret
  exact ⟨rfl, HB1.out⟩
end
end Go.Proofs.YtjemnkijoiehmaaGreatDoor
end

section
/- store: on plain data: what Get, Put and Drop make of a store; where nothing need go. -/
namespace Go.Proofs.YtjemnkijoiehmaaGreatDoor
def St.getK (K : St) (n : Int) : St := match K.f n with
  | some s => K.use n s
  | none => K
def okN (n : Int) : Bool := decide (0 ≤ n) && decide (n < 16)
theorem okN_iff {n : Int} : okN n = true ↔ 0 ≤ n ∧ n < 16 := by
  unfold okN
  rw [Bool.and_eq_true, decide_eq_true_eq, decide_eq_true_eq]
def St.putK (K : St) (n : Int) (t : Bs) : St := if okN n = true then K.use n t else K
def St.dropK (K : St) (n : Int) : St := if (K.f n).isSome = true then K.drop n else K
def drpO (f : Int → Option Bs) (n : Int) : Int → Option Bs := cutO' f n
section
variable {K : St} {n : Int} {t : Bs}
theorem setO_self {f : Int → Option Bs} {s : Bs} (h : f n = some s) : setO f n s = f := by
  funext x
  by_cases e : x = n
  · rw [e, set_same, h]
  · rw [set_ne e]
theorem cutO_self {f : Int → Option Bs} (h : f n = none) : cutO' f n = f := by
  funext x
  by_cases e : x = n
  · rw [e, cut_same, h]
  · rw [cut_ne e]
theorem St.dropK_f (K : St) (n : Int) : (K.dropK n).f = drpO K.f n := by
  unfold St.dropK drpO
  split
  · rfl
  · rename_i h
    rw [cutO_self]
    cases e : K.f n with
    | none => rfl
    | some s => rw [e] at h; exact absurd rfl h
theorem St.go_le (h : K.ok) : K.go n t ≤ 16 := by
  have h1 := goN_le (heldO K.f K.near) K.bud (woI K.near n) (byt (heldO K.f K.near) (woI K.near n) + t.length)
  have h2 := woI_le K.near n
  have h3 := h.few
  unfold St.go
  omega
theorem St.dropK_sp : (K.dropK n).sp = K.sp := by
  unfold St.dropK
  split <;> rfl
theorem St.dropK_bud : (K.dropK n).bud = K.bud := by
  unfold St.dropK
  split <;> rfl
end
/-- The bytes of the texts of some numbers. -/
def lenO (f : Int → Option Bs) (x : Int) : Nat := ((f x).getD []).length
def totL (f : Int → Option Bs) (M : List Int) : Nat := (M.map (lenO f)).sum
theorem totL_cons (f : Int → Option Bs) (a : Int) (r : List Int) : totL f (a :: r) = lenO f a + totL f r := by unfold totL; rw [List.map_cons, List.sum_cons]
theorem totL_ne (f g : Int → Option Bs) (M : List Int) (h : ∀ x ∈ M, f x = g x) : totL f M = totL g M := by
  induction M with
  | nil => rfl
  | cons m r ih =>
    rw [totL_cons, totL_cons, ih (fun x hx => h x (List.mem_cons_of_mem _ hx))]
    unfold lenO
    rw [h m (List.mem_cons_self ..)]
section
variable {K : St} {n : Int} {t : Bs}
theorem held_near (f : Int → Option Bs) (near : List Int) {x : Int} (h : x ∈ near) : lenH (heldO f near) x = lenO f x := by
  unfold lenH lenO
  cases hf : f x with
  | none => rw [heldO_none hf]; rfl
  | some s => rw [heldO_near hf h]; rfl
end
end Go.Proofs.YtjemnkijoiehmaaGreatDoor
end

section
/- store: Get, Put, Drop of any number; two stores side by side. -/
namespace Go.Proofs.YtjemnkijoiehmaaGreatDoor
open Go.RowKit Go.Maps
variable {Xm : Nat → Prop}
/-- What a call leaves of a store. -/
def StQ (Xm : Nat → Prop) (w w' : World) (B q p : Nat) (K : St) (c : Nat) : Prop := SA Xm w' B q p K c ∧ FrT Xm B w w'
section
variable {w : World} {B q p c : Nat} {K : St} {n : Int} {t : Bs}
theorem sget (h : SA Xm w B q p K c) (hB : B ≤ w.heap.size) (hc : c ≤ 900000) (hi : I6 n) (hsp : K.sp ≤ 1000000) : Calls Tryz.prog 7 #[.pointer (some ⟨q, 0, none⟩), .int .i64 n] w fun r w' => r = .returned (fndV (K.f n)) ∧ StQ Xm w w' B q p (K.getK n) (c + 16) := by
  cases hf : K.f n with
  | some s =>
    have e : K.getK n = K.use n s := by unfold St.getK; rw [hf]
    rw [e]
    exact sget_some h hB hc hf hsp
  | none =>
    have e : K.getK n = K := by unfold St.getK; rw [hf]
    rw [e]
    refine Calls.mono (sget_none h hi hf) ?_
    rintro r w' ⟨rfl, hb⟩
    exact ⟨rfl, (h.new hb).mono (by omega), FrT.new hb⟩
theorem sput (h : SA Xm w B q p K c) (hB : B ≤ w.heap.size) (hc : c ≤ 900000) (ht : t.length ≤ 140737488351232) (hsp : K.sp ≤ 1000000) : Calls Tryz.prog 12 #[.pointer (some ⟨q, 0, none⟩), .int .i64 n, .string (str t)] w fun r w' => r = .returned (.int .i64 (if okN n = true then 0 else 1)) ∧ StQ Xm w w' B q p (K.putK n t) (c + 16) := by
  by_cases ho : okN n = true
  · have hr := okN_iff.1 ho
    have e : K.putK n t = K.use n t := by unfold St.putK; rw [if_pos ho]
    rw [e, if_pos ho]
    exact sput_ok h hB hc hr.1 hr.2 ht hsp
  · have hr : n < 0 ∨ 16 ≤ n := by
      rw [okN_iff] at ho
      omega
    have e : K.putK n t = K := by unfold St.putK; rw [if_neg ho]
    rw [e, if_neg ho]
    refine Calls.mono (sput_bad hr) ?_
    rintro r w' ⟨rfl, rfl⟩
    exact ⟨rfl, h.mono (by omega), FrT.refl _ _⟩
theorem sdrop (h : SA Xm w B q p K c) (hB : B ≤ w.heap.size) (hc : c ≤ 900000) (hi : I6 n) : Calls Tryz.prog 9 #[.pointer (some ⟨q, 0, none⟩), .int .i64 n] w fun r w' => r = .returned (.bool (K.f n).isSome) ∧ StQ Xm w w' B q p (K.dropK n) (c + 16) := by
  cases hf : K.f n with
  | some s =>
    have e : K.dropK n = K.drop n := by unfold St.dropK; rw [hf]; rfl
    rw [e]
    refine Calls.mono (sdrop_some h hB hc hf) ?_
    rintro r w' ⟨rfl, h1, h2⟩
    exact ⟨rfl, h1.mono (by omega), h2⟩
  | none =>
    have e : K.dropK n = K := by unfold St.dropK; rw [hf]; rfl
    rw [e]
    refine Calls.mono (sdrop_none h hi hf) ?_
    rintro r w' ⟨rfl, hb⟩
    exact ⟨rfl, (h.new hb).mono (by omega), FrT.new hb⟩
end
/-- Two stores side by side: what the one writes is the other's others'. -/
structure Tw (Xa Xb : Nat → Prop) (B : Nat) (w : World) (qa pa C qb pb : Nat) (Ka Kb : St) (c d : Nat) : Prop where
  a : SA Xa w B qa pa Ka c
  b : SA Xb w C qb pb Kb d
  all : ∀ k, k < w.heap.size → B ≤ k → Xa k ∨ Xb k
  hB : B ≤ C
  hC : C ≤ w.heap.size
def Two (B : Nat) (w : World) (qa pa C qb pb : Nat) (Ka Kb : St) (c d : Nat) : Prop := ∃ Xa Xb, Tw Xa Xb B w qa pa C qb pb Ka Kb c d
section
variable {w w' : World} {B qa pa C qb pb c d e : Nat} {Ka Kb K' : St}
theorem st_tag {Xm : Nat → Prop} {k : Nat} (h : StB Xm w k) : k < w.heap.size := by
  rcases h.1 with ⟨es, c, h⟩ | ⟨c, t, f, h, _⟩
  · exact lt_blk h
  · exact lt_blk h
theorem Tw.onA {Xa Xb : Nat → Prop} (h : Tw Xa Xb B w qa pa C qb pb Ka Kb c d) (hq : StQ Xa w w' B qa pa K' e) : Two B w' qa pa C qb pb K' Kb e d := by
  refine ⟨Xa, _, hq.1, h.b.grow hq.2 (fun k s => (h.all k (st_tag s.2) s.1).resolve_left s.2.2), fun k hk hB => ?_, h.hB, Nat.le_trans h.hC hq.2.size⟩
  by_cases hl : k < w.heap.size
  · exact (h.all k hl hB).elim .inl (fun x => .inr (.inl x))
  · exact .inr (.inr ⟨by omega, hk⟩)
theorem Two.new (h : Two B w qa pa C qb pb Ka Kb c d) (hb : Below w.heap.size w w') : Two B w' qa pa C qb pb Ka Kb c d := by
  obtain ⟨Xa, Xb, h⟩ := h
  exact h.onA ⟨h.a.new hb, FrT.new hb⟩
theorem Two.low (h : Two B w qa pa C qb pb Ka Kb c d) : B ≤ w.heap.size := by
  obtain ⟨Xa, Xb, h⟩ := h
  exact Nat.le_trans h.hB h.hC
/-- A second store is made beside the first. -/
theorem Two.made {w0 w1 w2 : World} {qb pb : Nat} {K0 : St} (ha : SA (fun _ => False) w0 B qa pa Ka c) (hB : B ≤ w0.heap.size) (h1 : Below w0.heap.size w0 w1) (hb : SA (fun k => k < w0.heap.size) w2 w0.heap.size qb pb K0 d) (h2 : Below w1.heap.size w1 w2) : Two B w2 qa pa w0.heap.size qb pb Ka K0 c d := by
  have hb2 : Below w0.heap.size w0 w2 := h1.trans (h2.mono h1.size)
  refine ⟨_, _, ha.grow (Fr.ofBelow hb2 (fun _ => False)) (fun _ f => f.elim), hb, fun k hk _ => ?_, hB, hb2.size⟩
  by_cases hl : k < w0.heap.size
  · exact .inr hl
  · exact .inl (.inr ⟨by omega, hk⟩)
end
end Go.Proofs.YtjemnkijoiehmaaGreatDoor
end

section
/- store: Clear. -/
namespace Go.Proofs.YtjemnkijoiehmaaGreatDoor
open Go.RowKit Go.Maps
variable {Xm : Nat → Prop}
attribute [local go_sem] Oper.semAt_some
def dropL (K : St) (L : List Int) : St := L.foldl (fun K n => K.dropK n) K
def St.clr (K : St) : St := ⟨noneO, [], K.sp, K.bud⟩
theorem dropL_snoc (K : St) (L : List Int) (n : Int) : dropL K (L ++ [n]) = (dropL K L).dropK n := by unfold dropL; rw [List.foldl_append]; rfl
theorem dropL_f (K : St) (L : List Int) (x : Int) : (dropL K L).f x = if x ∈ L then none else K.f x := by
  unfold dropL
  induction L generalizing K with
  | nil => rw [if_neg (by simp)]; rfl
  | cons m r ih =>
    rw [List.foldl_cons, ih, St.dropK_f]
    unfold drpO
    by_cases h : x ∈ r
    · rw [if_pos h, if_pos (List.mem_cons_of_mem _ h)]
    · rw [if_neg h]
      by_cases e : x = m
      · rw [e, cut_same, if_pos (List.mem_cons_self ..)]
      · rw [cut_ne e, if_neg (fun hh => (List.mem_cons.1 hh).elim e h)]
theorem dropL_sp (K : St) (L : List Int) : (dropL K L).sp = K.sp ∧ (dropL K L).bud = K.bud := by
  unfold dropL
  induction L generalizing K with
  | nil => exact ⟨rfl, rfl⟩
  | cons m r ih =>
    rw [List.foldl_cons]
    have := ih (K.dropK m)
    exact ⟨this.1.trans St.dropK_sp, this.2.trans St.dropK_bud⟩
theorem dropL_all {K : St} (h : K.ok) (hd : (dropL K (keysO K.f)).ok) : dropL K (keysO K.f) = K.clr := by
  have hf : (dropL K (keysO K.f)).f = noneO := by
    funext x
    rw [dropL_f]
    by_cases hx : x ∈ keysO K.f
    · rw [if_pos hx]; rfl
    · rw [if_neg hx]
      rw [mem_keysO h.sup] at hx
      cases e : K.f x with
      | none => rfl
      | some s => rw [e] at hx; exact absurd rfl hx
  have hn : (dropL K (keysO K.f)).near = [] := by
    cases e : (dropL K (keysO K.f)).near with
    | nil => rfl
    | cons a r =>
      have := hd.sub a (by rw [e]; exact List.mem_cons_self ..)
      rw [hf] at this
      cases this
  obtain ⟨h1, h2⟩ := dropL_sp K (keysO K.f)
  generalize dropL K (keysO K.f) = D at hf hn h1 h2
  obtain ⟨f, near, sp, bud⟩ := D
  simp only at hf hn h1 h2
  unfold St.clr
  rw [hf, hn, h1, h2]
theorem FrT.mono {Ym : Nat → Prop} {B : Nat} {w w' : World} (h : FrT Ym B w w') (hY : ∀ k, Xm k → Ym k) : FrT Xm B w w' := Fr.mono h (fun k _ s => ⟨s.1, s.2.1, fun hx => s.2.2 (hY k hx)⟩)
/-- What the rounds hold. -/
structure ClI (Xm : Nat → Prop) (w4 W : World) (B q p : Nat) (K : St) (c : Nat) (T : Nat → Prop) : Prop where
  sa : ∃ Xn : Nat → Prop, (∀ k, Xm k → Xn k) ∧ (∀ k, k < W.heap.size → B ≤ k → T k ∨ Xn k) ∧ SA Xn W B q p K c
  fr : FrT Xm B w4 W
  low : B ≤ w4.heap.size
theorem ClI.stands {w4 : World} {B q p c : Nat} {K : St} : Stands w4.heap.size (fun (pre : List Int) T W => ClI Xm w4 W B q p (dropL K pre) (c + 16 * pre.length) T) := by
  intro s T W W' h f
  obtain ⟨Xn, h1, h2, h3⟩ := h.sa
  have f2 : Fr W W' (fun k => k < W.heap.size ∧ w4.heap.size ≤ k ∧ ¬ T k) := Fr.mono f (fun i hi s => ⟨hi, s⟩)
  have hlow := h.low
  refine ⟨⟨_, fun k hk => .inl (h1 k hk), fun k hk hB => ?_, h3.grow f2 (fun k hk => (h2 k hk.1 (by omega)).resolve_left hk.2.2)⟩, Fr.trans h.fr f (fun i hi e => absurd e.1 (by omega)), h.low⟩
  by_cases hl : k < W.heap.size
  · exact (h2 k hl hB).elim .inl (fun x => .inr (.inl x))
  · exact .inr (.inr ⟨by omega, hk⟩)
set_option linter.unusedSimpArgs false in
set_option maxRecDepth 100000 in
set_option maxHeartbeats 4000000 in
theorem sclear {w : World} {B q p c : Nat} {K : St} (h : SA Xm w B q p K c) (hB : B ≤ w.heap.size) (hc : c ≤ 800000) : Calls Tryz.prog 11 #[.pointer (some ⟨q, 0, none⟩)] w fun r w' => r = .returned (.tuple #[]) ∧ StQ Xm w w' B q p K.clr (c + 256) := by
  have HSA : Hid (SA Xm w B q p K c) := h
  have HBw : Hid (B ≤ w.heap.size ∧ c ≤ 800000) := ⟨hB, hc⟩
  have hb3 := gone_new w (.cells #[.pointer (some ⟨q, 0, none⟩)] 23)
  have hx3 := heap_alloc_new w (.cells #[.pointer (some ⟨q, 0, none⟩)] 23)
  have hN := snumbers (h.new hb3)
  obtain ⟨W3, hW3⟩ : ∃ W3, w.alloc (.cells #[.pointer (some ⟨q, 0, none⟩)] 23) = W3 := ⟨_, rfl⟩
  have HW3 : Hid (w.alloc (.cells #[.pointer (some ⟨q, 0, none⟩)] 23) = W3) := hW3
  have HB3 : Hid (Below w.heap.size w W3) := by show Below _ _ _; rw [← hW3]; exact hb3
  have HX3 : Hid (W3.heap[w.heap.size]? = some (.cells #[.pointer (some ⟨q, 0, none⟩)] 23 (0, 0))) := by show _ = _; rw [← hW3]; exact hx3
  clear h hB hc hb3 hx3 hW3
  refine (callsIn_wide (n := 9)).1 ?_
  refine callsIn_of_wp_marks Tryz.func11 rfl trivial ?_ rfl
  simp only [Tryz.ntmps11, List.size_toArray, List.length_cons, List.length_nil, Nat.reduceAdd, Nat.reduceSub, Array.replicate_succ, Array.replicate_zero, List.push_toArray, List.append_toArray, List.nil_append, List.cons_append]
  gi_wp2_with (refine ⟨trivial, ?_⟩; gi_at_call 23; refine (callsIn_wide.2 hN).mono ?_; rintro r w4 ⟨bo, rfl, e1, e2⟩; rw [HW3.out] at e1 e2; have HNa : Hid (NumAt w4 W3.heap.size bo (keysO K.f)) := e1; have HB4 : Hid (Below W3.heap.size W3 w4) := e2; clear e1 e2 hN)
  clear HW3
  have HL4 : Hid (Below w.heap.size w w4) := HB3.out.trans (HB4.out.mono HB3.out.size)
  have HX4 : Hid (w4.heap[w.heap.size]? = some (.cells #[.pointer (some ⟨q, 0, none⟩)] 23 (0, 0))) := (HB4.out.block _ (lt_blk HX3.out)).trans HX3.out
  have HS4 : Hid (w.heap.size ≤ W3.heap.size) := HB3.out.size
  clear HX3 HB3 HB4
  obtain ⟨bx, hbx⟩ : ∃ bx, w.heap.size = bx := ⟨_, rfl⟩
  rw [hbx] at HX4 HS4
  rw [hbx]
  have HBx : Hid (w.heap.size = bx) := hbx
  clear hbx
  have hRl := keysO_len (f := K.f)
  obtain ⟨R, hRe⟩ : ∃ R, keysO K.f = R := ⟨_, rfl⟩
  have HRe : Hid (keysO K.f = R) := hRe
  rw [hRe] at HNa hRl
  obtain ⟨hlow, ao, cap, hbo, hrow⟩ := HNa.out
  obtain ⟨Xn, hXn⟩ : ∃ Xn : Nat → Prop, Xn = fun k => Xm k ∨ (w.heap.size ≤ k ∧ k < w4.heap.size) := ⟨_, rfl⟩
  have HXn : Hid (∀ k, Xn k ↔ Xm k ∨ (w.heap.size ≤ k ∧ k < w4.heap.size)) := fun k => by rw [hXn]
  have HS : Hid (SA Xn w4 B q p K c) := by show SA _ _ _ _ _ _ _; rw [hXn]; exact HSA.out.grow (Fr.ofBelow HL4.out (fun _ => False)) (fun _ f => f.elim)
  have hI0 : ClI Xn w4 w4 B q p (dropL K []) (c + 16 * ([] : List Int).length) (fun k => k < w4.heap.size ∧ B ≤ k ∧ ¬ Xn k) :=
    ⟨⟨Xn, fun _ h => h, fun k hk hB => by
      by_cases hx : Xn k
      · exact .inr hx
      · exact .inl ⟨hk, hB, hx⟩, HS.out⟩, Fr.refl _ _, Nat.le_trans HBw.out.1 HL4.out.size⟩
  have HI0 : Hid _ := hI0
  clear hI0 hXn
  refine wpIn_rangeT (lb := #[.pointer (some ⟨bo, 0, none⟩)]) (gf := 61) rfl (enters_of Tryz.func61 (by kernel_rfl) rfl)
    (values_T bo ao cap R (by omega) w4 (fun k => W3.heap.size ≤ k ∧ k < w4.heap.size) (fun k hk => hk.2) hbo (fun h0 => by
      obtain ⟨g, off, e, hg, hc⟩ := hrow h0
      exact ⟨g, off, e, ⟨hg, glt_cell (hc 0 h0)⟩, hc⟩)) (Below.refl _ _) (fun _ => rfl)
    (fun pre T W => ClI Xn w4 W B q p (dropL K pre) (c + 16 * pre.length) T) (fun _ _ _ _ => False) ClI.stands (fun _ _ _ _ _ h _ => h.elim) (fun k => k < w4.heap.size ∧ B ≤ k ∧ ¬ Xn k) (fun k hk => ⟨hk.1, fun e => hk.2.2 ((HXn.out k).2 (.inr ⟨by have := HBx.out; have := HS4.out; omega, e.2⟩))⟩) HI0.out ?round ?done (fun _ _ _ _ _ _ _ h => h.elim)
  case round =>
    rintro m l pre T x W hl0 ⟨r, hrr⟩ hTl hI _ hpre
    have HI : Hid (ClI Xn w4 W B q p (dropL K pre) (c + 16 * pre.length) T) := hI
    have HRr : Hid (pre ++ [x] <+: R) := hpre
    have HTl : Hid (¬ T l) := hTl
    have HLl : Hid (w4.heap.size ≤ l) := hl0
    clear hI hpre hl0 hTl hrr
    dsimp only [encI]
    gi_wp2
    refine ⟨Fr.refl _ _, fun W2 f2 => ?_⟩
    have hI2 : ClI Xn w4 W2 B q p (dropL K pre) (c + 16 * pre.length) T := ClI.stands pre T W W2 HI.out (Fr.mono f2 (fun i hi e => by rw [e]; exact ⟨HLl.out, HTl.out⟩))
    have HI2 : Hid (ClI Xn w4 W2 B q p (dropL K pre) (c + 16 * pre.length) T) := hI2
    have hplen : pre.length ≤ 16 := by
      have := HRr.out.length_le
      simp at this
      omega
    have hxR : x ∈ R := by
      obtain ⟨tl, e⟩ := HRr.out
      rw [← e]
      simp
    have hix : I6 x := by
      have h1 := HSA.out.ok.sup x ((mem_keysO HSA.out.ok.sup).1 (by rw [HRe.out]; exact hxR))
      exact i6_few h1.1 h1.2
    have hbx2 : W2.heap[bx]? = some (.cells #[.pointer (some ⟨q, 0, none⟩)] 23 (0, 0)) := (hI2.fr.block bx (lt_blk HX4.out) (fun e => e.2.2 ((HXn.out bx).2 (.inr ⟨by have := HBx.out; omega, lt_blk HX4.out⟩)))).trans HX4.out
    have z0 : W2.cell? ⟨bx, 0, none⟩ = some (.pointer (some ⟨q, 0, none⟩)) := by simp [World.cell?, hbx2]
    obtain ⟨Xp, hx1, hx2, hx3⟩ := hI2.sa
    have hB2 : B ≤ W2.heap.size := Nat.le_trans hI2.low hI2.fr.size
    have HD : Hid (Calls Tryz.prog 9 #[.pointer (some ⟨q, 0, none⟩), .int .i64 x] W2 fun r w' => r = .returned (.bool ((dropL K pre).f x).isSome) ∧ StQ Xp W2 w' B q p ((dropL K pre).dropK x) (c + 16 * pre.length + 16)) := sdrop hx3 hB2 (by have := HBw.out.2; omega) hix
    have HPost : Hid (∀ w', StQ Xp W2 w' B q p ((dropL K pre).dropK x) (c + 16 * pre.length + 16) → ∃ T', Fr W2 w' T ∧ Grows W2 w' T T' ∧ ClI Xn w4 w' B q p (dropL K (pre ++ [x])) (c + 16 * (pre ++ [x]).length) T') := fun w' hq => by
      refine ⟨fun k => T k ∨ (W2.heap.size ≤ k ∧ k < w'.heap.size), Fr.mono hq.2 (fun i hi e => (hx2 i hi e.1).resolve_right e.2.2), fun k hk => hk, ⟨⟨Xp, hx1, fun k hk hB => ?_, ?_⟩, ?_, HI2.out.low⟩⟩
      · by_cases hl : k < W2.heap.size
        · exact (hx2 k hl hB).elim (fun e => .inl (.inl e)) .inr
        · exact .inl (.inr ⟨by omega, hk⟩)
      · rw [dropL_snoc, List.length_append, List.length_singleton]
        exact hq.1.mono (by omega)
      · exact HI2.out.fr.trans (hq.2.mono hx1)
    clear hI2 hxR hix hbx2 hx1 hx2 hx3 hB2
    gi_wp2_with (refine ⟨trivial, (fun h => by simp [Fence.wide] at h), ?_⟩; gi_at_call 9; refine (CallsIn.inRound l (callsIn_wide.2 HD.out)).mono ?_; rintro r w5 ⟨rfl, e1⟩; have HQ5 : Hid _ := e1; clear e1)
    exact HPost.out w5 HQ5.out
  case done =>
    rintro D xs T W hD rfl hI hTD hK
    have HI : Hid (ClI Xn w4 W B q p (dropL K xs) (c + 16 * xs.length) T) := hI
    have HKd : Hid (W.heap[D]? = some (.deferred (some []))) := hK
    have HDw : Hid (w4.heap.size ≤ D) := hD
    have HTD : Hid (¬ T D) := hTD
    clear hI hK hD hTD
    gi_wp2
    refine ⟨by simp, .inl ⟨_, _, rfl, run_takeDeferred HKd.out, .tuple #[], by simp [results, Tryz.results11, go_sem], rfl, ?_⟩⟩
    have fD : Fr W (W.putObj D (.deferred none)) (fun k => k = D) := Fr.putObj _ rfl
    obtain ⟨Xp, hx1, hx2, hx3⟩ := HI.out.sa
    have hDl := lt_blk HKd.out
    have hlow4 := HI.out.low
    have hXD : Xp D := (hx2 D hDl (by have := HDw.out; omega)).resolve_left HTD.out
    have hk := hx3.kept fD (fun k e => by rw [e]; exact hXD)
    have hd : dropL K xs = K.clr := by
      have := dropL_all HSA.out.ok (by rw [HRe.out]; exact hk.ok)
      rw [HRe.out] at this
      exact this
    rw [hd] at hk
    have hXm : ∀ k, Xm k → Xn k := fun k h => (HXn.out k).2 (.inl h)
    refine ⟨(hk.less (fun k h => hx1 k (hXm k h))).mono (by omega), ?_⟩
    refine Fr.trans ((FrT.new HL4.out).trans (HI.out.fr.mono hXm)) fD (fun i hi e => ?_)
    have := HDw.out
    have := HL4.out.size
    omega
end Go.Proofs.YtjemnkijoiehmaaGreatDoor
end

section
/- StorePlays: the law's own model: without, used, use. -/
namespace Go.Proofs.YtjemnkijoiehmaaGreatDoor
open Go.RowKit Go.Maps
attribute [local go_sem] Oper.semAt_some
def lvS (t : Bs) : Value := .string (str t)
theorem zrS (w : World) : (zeroValue 9).run Tryz.prog w = .ok (.string (str [])) w := by
  go_simp
  rfl
theorem mtS : MT 30 9 (.string (str [])) := ⟨Tryz.underlying30, zrS⟩
theorem lvs_getD (o : Option Bs) : (o.map lvS).getD (.string (str [])) = .string (str (o.getD [])) := by cases o <;> rfl
theorem woI_snoc (L : List Int) (x n : Int) : woI (L ++ [x]) n = woI L n ++ (if x = n then [] else [x]) := by
  unfold woI
  rw [List.filter_append]
  congr 1
  by_cases e : x = n
  · rw [if_pos e]; simp [e]
  · rw [if_neg e]; simp [e]
set_option maxRecDepth 100000 in
set_option maxHeartbeats 1000000 in
theorem mwithout {w : World} {v : Value} {L : List Int} {n : Int} (h : NrS w v L) (hL : L.length ≤ 1000) : Calls Tryz.prog 10 #[v, .int .i64 n] w fun r w' => ∃ v', r = .returned v' ∧ NrO w' w.heap.size v' (woI L n) ∧ Below w.heap.size w w' := by
  obtain ⟨ao, cap, rfl, hcap, hcs⟩ := h
  have HC : Hid (∀ W, Below w.heap.size w W → ∀ k (h : k < L.length), ∃ b off, ao = some ⟨b, off, none⟩ ∧ W.cell? ⟨b, off + k, none⟩ = some (.int .i64 L[k])) := fun W hW k h => by
    obtain ⟨b, off, e, hc⟩ := hcs (by omega)
    exact ⟨b, off, e, gnew_cell hW (hc k h)⟩
  have HS : Hid (∀ k (h : k < L.length), woI (L.take (k + 1)) n = woI (L.take k) n ++ (if L[k] = n then [] else [L[k]])) := fun k h => by rw [List.take_succ_eq_append_getElem h, woI_snoc]
  have HLn : Hid (∀ k, (woI (L.take k) n).length + 1 ≤ 2000000000) := fun k => by
    have := woI_le (L.take k) n
    rw [List.length_take] at this
    omega
  clear hcs
  obtain ⟨n0, hn0⟩ : ∃ n0, L.length = n0 := ⟨_, rfl⟩
  rw [hn0] at hL hcap
  have HN : Hid (L.length = n0) := hn0
  rw [hn0]
  clear hn0
  go_enter Tryz.func10, Tryz.ntmps10
  go_upto_region 2 with (fail)
  generalize hW0 : World.alloc _ _ = W0
  have hr0 : NrO W0 w.heap.size (.slice (some ⟨w.heap.size, 0, none⟩) 0 0) (woI (L.take 0) n) := by
    rw [← hW0]
    exact .inr ⟨w.heap.size, 0, 0, rfl, Nat.le_refl _, ⟨#[], heap_alloc_new _ _, Nat.le_refl _⟩, Nat.le_refl _, Nat.zero_le _, fun j hj => by cases hj⟩
  have hb0 : Below w.heap.size w W0 := by rw [← hW0]; exact gone_new _ _
  have HR0 : Hid (NrO W0 w.heap.size (.slice (some ⟨w.heap.size, 0, none⟩) 0 0) (woI (L.take 0) n)) := hr0
  have HB0 : Hid (Below w.heap.size w W0) := hb0
  clear hW0 hr0 hb0
  go_wp2
  go_loopw [5, 6] (fun v i wr => ∃ k : Nat, k ≤ n0 ∧ i = .int .i64 k ∧ NrO wr w.heap.size v (woI (L.take k) n) ∧ Below w.heap.size w wr) (fun _ i _ => n0 - (intOf i).toNat)
  case atStart => exact ⟨0, Nat.zero_le _, rfl, HR0.out, HB0.out⟩
  case round =>
    obtain ⟨k, hk, rfl, hr, hb⟩ := hrel
    have HR : Hid (NrO wr w.heap.size u5 (woI (L.take k) n)) := hr
    have HB : Hid (Below w.heap.size w wr) := hb
    clear hr hb
    by_cases hlt : k < n0
    · have hk2 : k < L.length := by have := HN.out; omega
      obtain ⟨b, off, rfl, hc⟩ := HC.out wr HB.out k hk2
      have HSk : Hid (woI (L.take (k + 1)) n = woI (L.take k) n ++ (if L[k] = n then [] else [L[k]])) := HS.out k hk2
      have HLk := HLn.out k
      have HLl : Hid ((woI (L.take k) n).length + 1 ≤ 2000000000) := HLk
      have HSw : Hid (w.heap.size ≤ wr.heap.size) := HB.out.size
      generalize L[k] = x at hc HSk
      clear hk2 HLk
      by_cases hx : x = n
      · have HR2 : Hid (NrO wr w.heap.size u5 (woI (L.take (k + 1)) n)) := by
          show NrO _ _ _ _
          rw [HSk.out, if_pos hx, List.append_nil]
          exact HR.out
        go_wp2
        go_roundw
        case rel => exact ⟨k + 1, hlt, by go_num, HR2.out, HB.out⟩
        case measure => simp [intOf]; omega
      · have HSn : Hid (woI (L.take (k + 1)) n = woI (L.take k) n ++ [x]) := by show _ = _; rw [HSk.out, if_neg hx]
        have HBel : Hid (∀ w6, Fr (wr.alloc (.cells #[.int .i64 x] 3)) w6 (fun k => Value.ownBlock u5 = some k) → Below w.heap.size w w6) := fun w6 f6 => HB.out.trans (((gone_new wr (.cells #[.int .i64 x] 3)).mono HSw.out).trans (NrO.below (NrO.new HR.out (gone_new wr (.cells #[.int .i64 x] 3))) (Nat.le_trans HSw.out (by simp)) f6))
        go_wp2_with (at_builtin; refine wpl_appN rfl rfl rfl rfl (NrO.new HR.out (gone_new _ _)) (srcN _ _) HLl.out (Nat.le_trans HSw.out (by simp)) ?_; intro v6 w6 o6 f6 _; have O6 : Hid _ := o6; have B6 : Hid (Below w.heap.size w w6) := HBel.out w6 f6; clear o6 f6)
        go_roundw
        case rel => exact ⟨k + 1, hlt, by go_num, by rw [HSn.out]; exact O6.out, B6.out⟩
        case measure => simp [intOf]; omega
    · obtain rfl : k = n0 := by omega
      have HE : Hid (woI (L.take k) n = woI L n) := by show _ = _; rw [List.take_of_length_le (by have := HN.out; omega)]
      go_wp2
      go_ret
      rw [← HE.out]
      exact ⟨_, rfl, HR.out, HB.out⟩
/-- The model's value. -/
def mdV (b : Nat) (v : Value) : Value := .agg #[.map (some b), v]
theorem totL_app (f : Int → Option Bs) (L R : List Int) : totL f (L ++ R) = totL f L + totL f R := by unfold totL; rw [List.map_append, List.sum_append]
theorem totL_le {f : Int → Option Bs} {M : Nat} (L : List Int) (h : ∀ x ∈ L, lenO f x ≤ M) : totL f L ≤ L.length * M := by
  induction L with
  | nil => exact Nat.zero_le _
  | cons m r ih =>
    have h1 := h m (List.mem_cons_self ..)
    have h2 := ih (fun x hx => h x (List.mem_cons_of_mem _ hx))
    rw [totL_cons, List.length_cons, Nat.add_mul]
    omega
set_option maxRecDepth 100000 in
set_option maxHeartbeats 1000000 in
theorem mused {w : World} {b : Nat} {v : Value} {f : Int → Option Bs} {L : List Int} (hm : IMp lvS w b f) (hv : NrS w v L) (hL : L.length ≤ 100) (hi : ∀ x ∈ L, I6 x) (hs : ∀ x, lenO f x ≤ 140737488351232) : Calls Tryz.prog 14 #[mdV b v] w fun r w' => r = .returned (.int .i64 (totL f L)) ∧ Below w.heap.size w w' := by
  obtain ⟨ao, cap, rfl, hcap, hcs⟩ := hv
  unfold mdV
  have hB := gone_new w (.cells #[.map (some b), .slice ao L.length cap] 33)
  have HX := heap_alloc_new w (.cells #[.map (some b), .slice ao L.length cap] 33)
  generalize hW : w.alloc (.cells #[.map (some b), .slice ao L.length cap] 33) = W at hB HX
  have HWe : Hid (w.alloc (.cells #[.map (some b), .slice ao L.length cap] 33) = W) := hW
  have HM : Hid (∀ V, Below W.heap.size W V → ∀ k (h : k < L.length), (Instr.lookup 30 (.map (some b)) (.int .i64 L[k]) false).run Tryz.prog V = .ok (.string (str ((f L[k]).getD []))) V) := fun V hV k h => by
    have := ((hm.new hB).new hV).look mtS (hi _ (List.getElem_mem h))
    rw [lvs_getD] at this
    exact this
  have HSz : Hid (∀ k (h : k < L.length), (str ((f L[k]).getD [])).size ≤ 140737488351232) := fun k h => by rw [str_size]; exact hs _
  have HS : Hid (∀ k (h : k < L.length), totL f (L.take (k + 1)) = totL f (L.take k) + (str ((f L[k]).getD [])).size) := fun k h => by
    rw [List.take_succ_eq_append_getElem h, totL_app, totL_cons, str_size]
    rfl
  have HBd : Hid (∀ k, totL f (L.take k) ≤ 100 * 140737488351232) := fun k => by
    have := totL_le (L.take k) (fun x _ => hs x)
    have h2 : (L.take k).length ≤ 100 := by rw [List.length_take]; omega
    exact Nat.le_trans this (Nat.mul_le_mul_right _ h2)
  have HC : Hid (∀ V, Below W.heap.size W V → ∀ k (h : k < L.length), ∃ b off, ao = some ⟨b, off, none⟩ ∧ V.cell? ⟨b, off + k, none⟩ = some (.int .i64 L[k])) := fun V hV k h => by
    obtain ⟨b, off, e, hc⟩ := hcs (by omega)
    exact ⟨b, off, e, gnew_cell hV (gnew_cell hB (hc k h))⟩
  have HE : Hid (totL f (L.take L.length) = totL f L) := by show _ = _; rw [List.take_length]
  have HB : Hid (Below w.heap.size w W) := hB
  obtain ⟨q, hq⟩ : ∃ q, w.heap.size = q := ⟨_, rfl⟩
  rw [hq] at HX
  have HX0 : Hid (W.heap[q]? = some (.cells #[.map (some b), .slice ao L.length cap] 33 (0, 0))) := HX
  clear hcs hs hi hm hB HX
  obtain ⟨n0, hn0⟩ : ∃ n0, L.length = n0 := ⟨_, rfl⟩
  rw [hn0] at hL hcap HX0 hW
  have HN : Hid (L.length = n0) := hn0
  have HQ : Hid (w.heap.size = q) := hq
  rw [hn0]
  clear hn0
  go_enter Tryz.func14, Tryz.ntmps14
  go_upto_region 1 with (fail)
  clear hW hq HWe
  go_wp2
  go_loopw [3, 4] (fun c i wr => ∃ k : Nat, k ≤ n0 ∧ i = .int .i64 k ∧ c = .int .i64 (totL f (L.take k)) ∧ Below W.heap.size W wr) (fun _ i _ => n0 - (intOf i).toNat)
  case atStart => exact ⟨0, Nat.zero_le _, rfl, rfl, Below.refl _ _⟩
  case round =>
    obtain ⟨k, hk, rfl, rfl, hbw⟩ := hrel
    have HBw : Hid (Below W.heap.size W wr) := hbw
    have hx := (HBw.out.block q (lt_blk HX0.out)).trans HX0.out
    have c0 : wr.cell? ⟨q, 0, none⟩ = some (.map (some b)) := by simp [World.cell?, hx]
    have c1 : wr.cell? ⟨q, 1, none⟩ = some (.slice ao n0 cap) := by simp [World.cell?, hx]
    clear hx hbw
    by_cases hlt : k < n0
    · have hk2 : k < L.length := by have := HN.out; omega
      have hlk := fun m => HM.out (wr.drewN m) (HBw.out.trans (show Below W.heap.size wr (wr.drewN m) from ⟨rfl, rfl, rfl, Nat.le_refl _, fun _ _ => rfl⟩)) k hk2
      have hmk := HSz.out k hk2
      have hsk := HS.out k hk2
      have hbk := HBd.out k
      obtain ⟨gb, off, rfl, hc⟩ := HC.out wr HBw.out k hk2
      generalize totL f (L.take k) = t0 at hsk hbk ⊢
      have HSk : Hid (totL f (L.take (k + 1)) = t0 + (str ((f L[k]).getD [])).size) := hsk
      generalize (f L[k]).getD [] = y at hlk hmk HSk
      generalize L[k] = x at hlk hc
      clear hsk hk2
      have hltI : (k : Int) < (n0 : Int) := by omega
      go_upto_region 5 with (fail)
      go_quiet (fail)
      go_wp2
      go_roundw
      case rel => exact ⟨k + 1, hlt, by go_num, by rw [HSk.out]; go_num, HBw.out.trans (show Below W.heap.size wr (wr.drewN nq) from ⟨rfl, rfl, rfl, Nat.le_refl _, fun _ _ => rfl⟩)⟩
      case measure => simp [intOf]; omega
    · obtain rfl : k = n0 := by omega
      go_wp2
      go_ret
      have h1 := HE.out
      rw [HN.out] at h1
      rw [h1]
      exact ⟨rfl, HB.out.trans (HBw.out.mono HB.out.size)⟩
end Go.Proofs.YtjemnkijoiehmaaGreatDoor
end
