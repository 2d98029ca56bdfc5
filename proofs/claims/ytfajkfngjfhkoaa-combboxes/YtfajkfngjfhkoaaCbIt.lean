/- inOrder$1: the messages vertex by vertex, each list laid anew. -/
import Derived.Test.YtfajkfngjfhkoaaCbItM
import Derived.Test.YtfajkfngjfhkoaaCbNilIt
import Derived.Test.YtfajkfngjfhkoaaGrIterO
namespace Go.Proofs.Ytfajkfngjfhkoaa
open Go.RowKit Go.Shelf Go.Maps Go.Sort
attribute [local go_sem] Oper.semAt_some
theorem one_newI (w : World) (o : Obj) : Below w.heap.size w (w.alloc o) := (Below.refl _ _).alloc (Nat.le_refl _) _
/-- A list that is yielded: where its slice lies. -/
def encL (x : List Msg × Option Addr × Nat) : Array Value := #[.slice x.2.1 x.1.length x.2.2]
/-- It holds these messages, in a block that is none of the rounds'. -/
def PxL (x : List Msg × Option Addr × Nat) (T : Nat → Prop) (W : World) : Prop := MsAt W (fun k => ¬ T k ∧ k < W.heap.size) x.2.1 x.1
theorem ks_shape {w : World} {base : Nat} {t : TypeId} {v : Value} {ss ks : List Int} (he : ss.mergeSort (fun x y => decide (x ≤ y)) = ks) (h : w.ownsRow base t 1 v ss.length ((ss.mergeSort (fun x y => decide (x ≤ y))).map encZ)) :
    ∃ ao c, v = .slice ao ks.length c ∧ (0 < ks.length → ∃ g, ao = some ⟨g, 0, none⟩ ∧ base ≤ g ∧ ∀ j (h : j < ks.length), w.cell? ⟨g, j, none⟩ = some (.int .i64 ks[j])) := by
  have hl : ks.length = ss.length := by rw [← he]; exact List.length_mergeSort _
  rw [he] at h
  rcases h.2 with ⟨rfl, h0⟩ | ⟨g, cap, cur, rfl, hb, _⟩
  · exact ⟨none, 0, by rw [hl, h0], fun hp => by omega⟩
  · refine ⟨some ⟨g, 0, none⟩, cap, by rw [hl], fun _ => ⟨g, rfl, hb, fun j hj => ?_⟩⟩
    have := h.cells (g := g) rfl j (encZ ks[j]) (by simp [hj])
    have hadd : (⟨g, 0, none⟩ : Addr).add j = ⟨g, j, none⟩ := by unfold Addr.add; split <;> simp_all
    rw [hadd] at this
    exact this
set_option maxRecDepth 100000 in
set_option maxHeartbeats 4000000 in
theorem inord_some (Bs M N : Nat) (D : DataW Value) (B : List Msg) (w : World) (O : Nat → Prop) (hO : ∀ k, O k → k < w.heap.size) (hOB : O Bs) (hBs : w.cell? ⟨Bs, 0, none⟩ = some (.map (some M))) (hM : MP w O M N D B) (hB : B.length * 32 ≤ 140737488355328) (hok : ∀ m ∈ B, m.ok) :
    SeqT Try.prog 87 #[.pointer (some ⟨Bs, 0, none⟩)] encL PxL (fun ys => ys.map (·.1) = rowsM B) (fun pre => pre.map (·.1) <+: rowsM B) O w := by
  intro l J Jx T0 W hW hl1 hl2 hT0 hJ hJx hY h0
  have hM' : MP W O M N D B := hM.new hW
  have hBs' := (hW.cell (p := ⟨Bs, 0, none⟩) (lt_cell hBs)).trans hBs
  have hO' : ∀ k, O k → k < W.heap.size := fun k hk => Nat.lt_of_lt_of_le (hO k hk) hW.size
  have hw0 : Ow W W O T0 := ⟨Fr.refl _ _, fun k ho ht => (hT0 k ht).2 ho, fun k hk => (hT0 k hk).1⟩
  clear hM hBs hT0 hO
  have hkl := ksB_len B
  have hsz : Maps.size D ≤ B.length := by
    have h1 := (keys_perm hM').length_eq
    have h2 := (ksB_perm B).length_eq
    rcases size_keys (D := D) with h3 | h3 <;> omega
  have hseq : SeqGives Fence.wide 3 Try.prog 107 #[.pointer (some ⟨W.heap.size, 0, none⟩)] encZ (fun ss : List Int => ss.Perm (intKeys D)) (Maps.size D) (W.alloc (.cells #[.map (some M)] 113)) :=
    AnyZI.keys_gives (ρ := layKeys_ren) { layKeys with } Fence.wide _ trivial rfl (by omega) W.heap.size M N D _ (by simp) (by simp) (hM'.new (one_newI _ _)).own
  have cK : ∀ mb W, CallsIn Fence.wide 8 Try.prog 89 #[.map mb] W fun e w' => e = .returned (.func (.func 107) #[] #[.pointer (some ⟨W.heap.size, 0, none⟩)]) ∧ w' = W.alloc (.cells #[.map mb] 113) := fun mb W => AnyZI.keys_in layKeys Fence.wide 8 trivial rfl mb W
  have cS := AnyZI.sorted_in laySorted Fence.wide 6 trivial trivial trivial trivial rfl (by omega) (sortsI _) (enters_of Try.func106 (by kernel_rfl) rfl) 107 #[.pointer (some ⟨W.heap.size, 0, none⟩)] trivial (enters_of Try.func107 (by kernel_rfl) rfl) _ (Maps.size D) (by unfold maxLen; omega) (by omega) _ hseq
  change CallsIn _ _ Try.prog 88 _ _ _ at cS
  have cS' := callsIn_wide.1 cS
  refine (callsIn_wide (n := 9)).1 ?_
  refine callsIn_of_wp Try.func87 rfl trivial ?_ rfl
  simp only [Try.ntmps87, List.size_toArray, List.length_cons, List.length_nil, Nat.reduceAdd, Nat.reduceSub, Array.replicate_succ, Array.replicate_zero, List.push_toArray, List.append_toArray, List.nil_append, List.cons_append]
  gi_wp2_with (first
    | (refine ⟨trivial, ?_⟩; gi_at_call 89; refine (cK _ _).mono ?_; rintro e w' ⟨rfl, rfl⟩)
    | (refine ⟨trivial, ?_⟩; gi_at_call 88; refine (callsIn_wide.2 cS').mono ?_; rintro e w2 ⟨v, ss, rfl, hss, hrow, hnil, hb2⟩; obtain ⟨ka, kc, rfl, hks⟩ := ks_shape (ksB_of (hss.trans (keys_perm hM').symm)) hrow))
  have hb3 : Below W.heap.size W w2 := (one_newI W _).trans (hb2.mono (by simp))
  have hM2 := hM'.new hb3
  have hBs2 := (hb3.cell (p := ⟨Bs, 0, none⟩) (lt_cell hBs')).trans hBs'
  have hJ2 := hJ _ _ _ _ h0 (Fr.ofBelow hb3 _)
  have hw2 : Ow w2 w2 (fun k => O k ∨ (W.heap.size ≤ k ∧ k < w2.heap.size)) T0 := ⟨Fr.refl _ _, fun k ho ht => ho.elim (fun h => hw0.off k h ht) (fun h => by have := hw0.inn k ht; omega), fun k hk => Nat.lt_of_lt_of_le (hw0.inn k hk) hb3.size⟩
  have hO2 : ∀ k, (O k ∨ (W.heap.size ≤ k ∧ k < w2.heap.size)) → k < w2.heap.size := fun k hk => hk.elim (fun h => Nat.lt_of_lt_of_le (hO' k h) hb3.size) (fun h => h.2)
  have hrl : (rowsM B).length = (ksB B).length := by simp [rowsM]
  have hrk : ∀ k (h : k < (ksB B).length), (rowsM B).take (k + 1) = (rowsM B).take k ++ [sortM (toV B (ksB B)[k])] := fun k h => by
    rw [List.take_succ_eq_append_getElem (by rw [hrl]; exact h)]
    simp [rowsM]
  have hkid : ∀ k (h : k < (ksB B).length), I64 (ksB B)[k] := fun k h => by
    obtain ⟨m, hm, e⟩ := (ksB_mem B _).1 (List.getElem_mem h)
    rw [← e]
    exact (hok m hm).t
  have hkg : ∀ g, 0 < (ksB B).length → ka = some ⟨g, 0, none⟩ → W.heap.size ≤ g := fun g h e => by
    obtain ⟨g', e', hg', _⟩ := hks h
    rw [e] at e'
    cases e'
    have := hg'
    simp at this
    omega
  have HRk : Hid _ := hrk
  have HM2 : Hid _ := hM2
  have HKi : Hid _ := hkid
  have HKs : Hid _ := hks
  have HOk : Hid _ := hok
  clear hM' hBs' hw0 h0 hseq cS cS' cK hss hrow hnil hrk hM2 hkid hks hok
  gi_wp2
  gi_loopw [4, 9] (fun _ i wr => ∃ (k : Nat) (ys : List (List Msg × Option Addr × Nat)) (T : Nat → Prop), k ≤ (ksB B).length ∧ i = .int .i64 k ∧ Hid (ys.map (·.1) = (rowsM B).take k) ∧ J ys T wr ∧ Ow w2 wr (fun k => O k ∨ (W.heap.size ≤ k ∧ k < w2.heap.size)) T) (fun _ i _ => (ksB B).length - (intOf i).toNat)
  case atStart => exact ⟨0, [], T0, Nat.zero_le _, rfl, rfl, hJ2, hw2⟩
  case round =>
    obtain ⟨k, ys, T, hk, rfl, HYs, hJs, hnx⟩ := hrel
    clear hw2 hJ2
    by_cases hlt : k < (ksB B).length
    · obtain ⟨g, rfl, hg, hgc⟩ := HKs.out (by omega)
      have d0 := hnx.cell (Or.inr ⟨hkg g (by omega) rfl, lt_cell (hgc k hlt)⟩) (hgc k hlt)
      have d1 := hnx.cell (Or.inl hOB) hBs2
      have hMr : MP wr O M N D B := HM2.out.kept hnx.fr (fun k hk hn => hn (Or.inl hk))
      have hid := HKi.out k hlt
      have HR : Hid _ := HRk.out k hlt
      have HPre : Hid ((rowsM B).take (k + 1) <+: rowsM B) := List.take_prefix _ _
      generalize (ksB B)[k] = id at d0 hid HR
      have hlk := hMr.look hid
      have hrow := hMr.rows id
      have hle : (toV B id).length ≤ B.length := List.length_filter_le _ _
      generalize hdOf D id = hv at hlk hrow
      have HMr : Hid _ := hMr
      have HRow : Hid _ := hrow
      have hyl : ∀ z : Option Addr × Nat, (ys ++ [(sortM (toV B id), z)]).map (·.1) <+: rowsM B := fun z => by rw [List.map_append, HYs.out]; have := HPre.out; rw [HR.out] at this; exact this
      have HYl : Hid _ := hyl
      clear hgc hMr hrow hyl
      gi_wp2_with (refine ⟨trivial, ?_⟩; gi_at_call 59; refine (callsIn_wide.2 (sorted_any HRow.out (by omega))).mono ?_; rintro r w3 ⟨v', rfl, hmo, hnw, hb1⟩; obtain ⟨ao', c', rfl⟩ := hmo.shape; obtain ⟨fn, tmps, assign, body, hy, hR⟩ := hY _ T (sortM (toV B id), ao', c') w3 (hJ _ _ _ _ hJs (Fr.ofBelow hb1 _)) (hmo.at_.mono (fun q hq hp => ⟨fun ht => by have := hnw q hp; have := hnx.inn q ht; omega, hq⟩)) (HYl.out _) (9 - 1); dsimp only [encL] at hy)
      refine hR.mono ?_
      rintro e W3 ⟨T2, hg3, (⟨rfl, f3, hJ3⟩ | ⟨rfl, f3, hJx3⟩)⟩
      · have hnl : Ow w2 W3 (fun k => O k ∨ (W.heap.size ≤ k ∧ k < w2.heap.size)) T2 := (hnx.new hb1).round hO2 f3 hg3
        gi_wp2
        go_roundw
        case rel => exact ⟨k + 1, _, T2, by omega, by go_num, by rw [HR.out]; show _ = _; rw [List.map_append, HYs.out]; rfl, hJ3, hnl⟩
        case measure => simp [intOf]; omega
      · gi_wp2
        refine bodyPost_ret (results_none rfl _ _ _) rfl ?_
        exact ⟨⟨_, rfl⟩, .inr ⟨_, T2, HYl.out _, hJx3⟩⟩
    · obtain rfl : k = (ksB B).length := by omega
      gi_wp2
      go_end0
      have := HYs.out
      rw [← hrl, List.take_length] at this
      exact ⟨⟨_, rfl⟩, .inl ⟨ys, T, this, hJs⟩⟩
end Go.Proofs.Ytfajkfngjfhkoaa
