import Derived.Test.YtidghoipmggklaaGreatMaAtM
import Derived.WalkSpells
/- Masters that have no job: workers come and go. -/
namespace Go.Proofs.YtidghoipmggklaaGreat
open Go.RowKit Go.Maps Go.Sort Go.Shelf
attribute [local go_sem] Oper.semAt_some
theorem sortsI (m : Nat) : AnyZI.SortsIn Tryz.prog laySortedInt_ren Fence.wide m :=
  ⟨fun blk off cap ss W hH hblk hsz => callsIn_wide.2 (AnyM.slices_Sort_int laySortInt blk off cap ss W hH hblk hsz),
   fun p cap W => callsIn_wide.2 (AnyM.slices_Sort_int_none laySortInt p cap W)⟩
set_option maxHeartbeats 1000000 in
theorem mworkers {w : World} {p : Nat} {ax js cr : Value} {mb : Option Nat} {ep : Int} {M : List Pz} (h : MaBox w p ax mb js ep cr M) (hn : M.length ≤ 1000000) : Calls Tryz.prog 30 #[.pointer (some ⟨p, 0, none⟩)] w fun r w' => ∃ v, r = .returned v ∧ IO_ w' w.heap.size v (risL (M.map (·.k))) ∧ Below w.heap.size w w' := by
  have c1 := h.c.2.1
  cases mb with
  | some b =>
    obtain ⟨D0, nn, hown, hm⟩ := h.wk
    have hperm := hm.perm hown
    have hsz := hm.size hown
    have HP : Hid (∀ ss : List Int, ss.Perm (intKeys D0) → ss.mergeSort (fun x y => decide (x ≤ y)) = risL (M.map (·.k)) ∧ ss.length = (risL (M.map (·.k))).length) := fun ss hss => by
      have hp := hss.trans hperm.symm
      have hnd : ss.Nodup := hp.nodup_iff.2 hm.nod
      have e : ss.mergeSort (fun x y => decide (x ≤ y)) = risL (M.map (·.k)) := by
        rw [sorted_ris hnd]
        exact rise_ext (risL_rise _) (risL_rise _) (fun x => by rw [risL_mem, risL_mem]; exact hp.mem_iff)
      exact ⟨e, by rw [← e, List.length_mergeSort]⟩
    refine (callsIn_wide (n := 6)).1 ?_
    have hbl := hown.lt
    have hseq : SeqGives Fence.wide 2 Tryz.prog 142 #[.pointer (some ⟨w.heap.size, 0, none⟩)] encZ (fun ss => ss.Perm (intKeys D0)) (Maps.size D0) (w.alloc (.cells #[.map (some b)] 90)) :=
      AnyZI.keys_gives (ρ := layKeysW_ren) { layKeysW with } Fence.wide _ trivial rfl (by omega) w.heap.size b nn D0 _ (by simp) (by simp) (by
        obtain ⟨es, clock, hb, Ft, hs, hD⟩ := hown
        exact ⟨es, clock, (Below.heap_alloc _ _ b hbl).trans hb, Ft, hs, hD⟩)
    have cK : ∀ mb W, CallsIn Fence.wide 5 Tryz.prog 86 #[.map mb] W fun e w' => e = .returned (.func (.func 142) #[] #[.pointer (some ⟨W.heap.size, 0, none⟩)]) ∧ w' = W.alloc (.cells #[.map mb] 90) := fun mb W => AnyZI.keys_in layKeysW Fence.wide 5 trivial rfl mb W
    have cS := AnyZI.sorted_in laySortedInt Fence.wide 5 trivial trivial trivial trivial rfl (by omega) (sortsI _) (enters_of Tryz.func141 (by kernel_rfl) rfl) 142 #[.pointer (some ⟨w.heap.size, 0, none⟩)] trivial (enters_of Tryz.func142 (by kernel_rfl) rfl) _ _ (by rw [hsz]; unfold maxLen; omega) (by rw [hsz]; omega) _ hseq
    change CallsIn _ _ Tryz.prog 85 _ _ _ at cS
    have hfK : Fence.wide.fn 86 := trivial
    have hfS : Fence.wide.fn 85 := trivial
    clear hperm hsz hown hm h
    refine callsIn_of_wp Tryz.func30 rfl trivial ?_ rfl
    simp only [Tryz.ntmps30, List.size_toArray, List.length_cons, List.length_nil, Nat.reduceAdd, Nat.reduceSub, Array.replicate_succ, Array.replicate_zero, List.push_toArray, List.append_toArray, List.nil_append, List.cons_append]
    gi_wp2_with (first
      | (gi_at_call 86; refine (cK _ _).mono ?_; rintro e w' ⟨rfl, rfl⟩)
      | (gi_at_call 85; refine cS.mono ?_; rintro e w' ⟨v, ss, rfl, hS, hrow, hnil, hb⟩))
    go_ret
    obtain ⟨e1, e2⟩ := HP.out ss hS
    rw [e1, e2] at hrow
    exact ⟨v, rfl, (io_iff.2 hrow).lower (by simp), ((Below.refl _ w).alloc (Nat.le_refl _) _).trans (hb.mono (by simp))⟩
  | none =>
    have hM : M = [] := h.wk
    subst hM
    refine (callsIn_wide (n := 6)).1 ?_
    have hseq : SeqGives Fence.wide 2 Tryz.prog 142 #[.pointer (some ⟨w.heap.size, 0, none⟩)] encZ (fun ss : List Int => ss = []) 0 (w.alloc (.cells #[.map none] 90)) :=
      AnyZI.keys_gives_nil (ρ := layKeysW_ren) { layKeysW with } Fence.wide _ trivial rfl w.heap.size _ (by simp) (by simp)
    have cK : ∀ mb W, CallsIn Fence.wide 5 Tryz.prog 86 #[.map mb] W fun e w' => e = .returned (.func (.func 142) #[] #[.pointer (some ⟨W.heap.size, 0, none⟩)]) ∧ w' = W.alloc (.cells #[.map mb] 90) := fun mb W => AnyZI.keys_in layKeysW Fence.wide 5 trivial rfl mb W
    have cS := AnyZI.sorted_in laySortedInt Fence.wide 5 trivial trivial trivial trivial rfl (by omega) (sortsI _) (enters_of Tryz.func141 (by kernel_rfl) rfl) 142 #[.pointer (some ⟨w.heap.size, 0, none⟩)] trivial (enters_of Tryz.func142 (by kernel_rfl) rfl) _ 0 (Nat.zero_le _) (by omega) _ hseq
    change CallsIn _ _ Tryz.prog 85 _ _ _ at cS
    have hfK : Fence.wide.fn 86 := trivial
    have hfS : Fence.wide.fn 85 := trivial
    clear h
    refine callsIn_of_wp Tryz.func30 rfl trivial ?_ rfl
    simp only [Tryz.ntmps30, List.size_toArray, List.length_cons, List.length_nil, Nat.reduceAdd, Nat.reduceSub, Array.replicate_succ, Array.replicate_zero, List.push_toArray, List.append_toArray, List.nil_append, List.cons_append]
    gi_wp2_with (first
      | (gi_at_call 86; refine (cK _ _).mono ?_; rintro e w' ⟨rfl, rfl⟩)
      | (gi_at_call 85; refine cS.mono ?_; rintro e w' ⟨v, ss, rfl, rfl, hrow, hnil, hb⟩; obtain rfl : v = .slice none 0 0 := hnil.2 rfl))
    go_ret
    exact ⟨_, rfl, GO.nil _ _ _ _ _, ((Below.refl _ w).alloc (Nat.le_refl _) _).trans (hb.mono (by simp))⟩
theorem wlen {w : World} {mb : Option Nat} {M : List Pz} (h : WkAt w mb M) (ty : TypeId) : (Builtin.len_ #[90] ty #[.map mb]).run Tryz.prog w = .ok (.int .i64 (M.length : Nat)) w := by
  cases mb with
  | none =>
    rw [show M = [] from h]
    exact Maps.len_nil (k := 3) (e := 3) Tryz.underlying90 ty
  | some b =>
    obtain ⟨D, n, h, hm⟩ := h
    rw [h.len Tryz.underlying90 ty, hm.size h]
set_option maxRecDepth 100000 in
theorem mgoon_idle {w : World} {p : Nat} {ax : Value} {mb : Option Nat} {ep : Int} {M : List Pz} (h : MaBox w p ax mb (.slice none 0 0) ep (.pointer none) M) (hl : M.length ≤ 1000000) : Calls Tryz.prog 129 #[.pointer (some ⟨p, 0, none⟩)] w fun r w' => r = .returned (.tuple #[]) ∧ MaBox w' p ax mb (.slice none 0 0) ep (.pointer none) M ∧ Fr w w' (fun k => k = p) := by
  have HA : Hid (MaBox w p ax mb (.slice none 0 0) ep (.pointer none) M) := h
  obtain ⟨-, c1, -, -, c4⟩ := h.c
  have f4 := h.f 4
  have hln := fun ty => wlen h.wk ty
  have hF := mfirst_none h
  clear h
  by_cases h0 : M.length = 0
  · rw [h0] at hln
    go_enter Tryz.func129, Tryz.ntmps129
    go_wp2
    refine bodyPost_ret (results_none rfl _ _ _) rfl ?_
    exact ⟨rfl, HA.out, Fr.refl _ _⟩
  · obtain ⟨n, hn⟩ : ∃ n, M.length = n + 1 := ⟨M.length - 1, by omega⟩
    rw [hn] at hln
    have hn0 : ¬ ((n : Int) + 1 = 0) := by omega
    clear h0 hn
    go_enter Tryz.func129, Tryz.ntmps129
    go_upto_region 3 with (go_at_call 175; refine hF.mono ?_; rintro r w1 ⟨rfl, rfl⟩)
    generalize hW2 : World.setCell _ _ _ = W2
    have HB2 : Hid (MaBox W2 p ax mb (.slice none 0 0) ep (.pointer none) M) := by
      rw [← hW2]
      have f := Fr.setCell (S := fun k => k = p) w1 ⟨p, 4, none⟩ (.pointer none) rfl
      refine ⟨ma_set _ HA.out.box, HA.out.wk.kept f (fun b hb => HA.out.ne b hb), HA.out.ne⟩
    have HF2 : Hid (Fr w1 W2 (fun k => k = p)) := by rw [← hW2]; exact Fr.setCell (S := fun k => k = p) w1 ⟨p, 4, none⟩ (.pointer none) rfl
    obtain ⟨-, -, -, -, d4⟩ := HB2.out.c
    clear hW2 hF c1 c4 f4
    go_wp2
    go_end0
    exact ⟨rfl, HB2.out, HF2.out⟩
/-- Who is lost. -/
def loseP (M : List Pz) (x l : Int) : List Pz := if (getP M x).isSome = true ∧ lifeP M x = l then delP M x else M
set_option maxRecDepth 100000 in
theorem mlose_idle {w : World} {p : Nat} {ax : Value} {mb : Option Nat} {ep : Int} {M : List Pz} (h : MaBox w p ax mb (.slice none 0 0) ep (.pointer none) M) {x l : Int} (hx : W6 x) : Calls Tryz.prog 74 #[.pointer (some ⟨p, 0, none⟩), .int .i64 x, .int .i64 l] w fun r w' => r = .returned (.tuple #[]) ∧ MaBox w' p ax mb (.slice none 0 0) ep (.pointer none) (loseP M x l) ∧ Fr w w' (MaB p mb) := by
  have HA : Hid (MaBox w p ax mb (.slice none 0 0) ep (.pointer none) M) := h
  obtain ⟨-, c1, -, -, c4⟩ := h.c
  have hlk := wlook h.wk hx
  rw [life_val] at hlk
  by_cases hs : (getP M x).isSome = true
  · rw [hs] at hlk
    by_cases hl : lifeP M x = l
    · have hM' : loseP M x l = delP M x := if_pos ⟨hs, hl⟩
      rw [hM']
      clear hM'
      generalize lifeP M x = lx at hlk hl
      subst hl
      cases mb with
      | none =>
        have h0 : M = [] := h.wk
        subst h0
        simp [getP] at hs
      | some b =>
        obtain ⟨W3, hrun, hM4, hF4⟩ := WMap.del (h := h.wk) hx 0 (M' := delP M x) (delP_nod h.wk.nod) (fun z hz => h.wk.oks z (delP_mem hz).1) (delP_get M x)
        have HM4 : Hid (WMap W3 b (delP M x)) := hM4
        have HF4 : Hid (Fr w W3 (fun k => k = b)) := hF4
        have HB4 : Hid (W3.heap[p]? = some (.cells #[ax, .map (some b), .slice none 0 0, .int .i64 ep, .pointer none] 160 (0, 0))) := (hF4.block p h.lt (fun e => h.ne b rfl e.symm)).trans h.box
        have d4 : W3.cell? ⟨p, 4, none⟩ = some (.pointer none) := by simp [World.cell?, HB4.out]
        clear h hM4 hF4 hs
        go_enter Tryz.func74, Tryz.ntmps74
        go_wp2_with (go_at_call 131; refine (has_none _ _).mono ?_; rintro r w1 ⟨rfl, rfl⟩)
        go_end0
        exact ⟨rfl, ⟨HB4.out, HM4.out, HA.out.ne⟩, HF4.out.mono (fun k _ hk => .inr (by rw [hk]))⟩
    · have hM' : loseP M x l = M := if_neg (fun h => hl h.2)
      rw [hM']
      have hl2 : (lifeP M x != l) = true := by simpa using hl
      generalize lifeP M x = lx at hlk hl2
      clear h hM' hs hl
      go_enter Tryz.func74, Tryz.ntmps74
      go_wp2
      refine bodyPost_ret (results_none rfl _ _ _) rfl ?_
      exact ⟨rfl, HA.out, Fr.refl _ _⟩
  · have hM' : loseP M x l = M := if_neg (fun h => hs h.1)
    rw [hM']
    have hs2 : (getP M x).isSome = false := by simpa using hs
    rw [hs2] at hlk
    generalize lifeP M x = lx at hlk
    clear h hM' hs hs2
    go_enter Tryz.func74, Tryz.ntmps74
    go_wp2
    refine bodyPost_ret (results_none rfl _ _ _) rfl ?_
    exact ⟨rfl, HA.out, Fr.refl _ _⟩
/-- Who joins. -/
def joinP (M : List Pz) (x l : Int) : List Pz := if 0 ≤ x ∧ x < 64 ∧ ((getP M x).isSome = true → lifeP M x < l) then insP M ⟨x, l⟩ else M
theorem wput {w : World} {b : Nat} {M : List Pz} (h : WMap w b M) (hl : M.length < 1000000) {x l : Int} (hx : W6 x) (hl6 : W6 l) : ∃ w', (Instr.mapUpdate 90 (.map (some b)) (.int .i64 x) (.int .i64 l)).run Tryz.prog w = .ok () w' ∧ WMap w' b (insP M ⟨x, l⟩) ∧ Fr w w' (fun k => k = b) :=
  h.put hl (y := ⟨x, l⟩) ⟨hx, hl6⟩ (insP_nod h.nod) (fun z hz => by
    rcases insP_mem hz with h1 | rfl
    · exact h.oks z h1
    · exact ⟨hx, hl6⟩) (insP_get M ⟨x, l⟩)
theorem insP_len (M : List Pz) (y : Pz) : (insP M y).length ≤ M.length + 1 := by
  unfold insP
  rw [List.length_append, List.length_singleton]
  have := List.length_filter_le (fun z : Pz => z.k != y.k) M
  omega
set_option maxRecDepth 100000 in
theorem mjoin_idle {w : World} {p : Nat} {ax : Value} {mb : Option Nat} {ep : Int} {M : List Pz} (h : MaBox w p ax mb (.slice none 0 0) ep (.pointer none) M) (hl : M.length ≤ 999999) {x l : Int} (hx : W6 x) (hl6 : W6 l) : Calls Tryz.prog 73 #[.pointer (some ⟨p, 0, none⟩), .int .i64 x, .int .i64 l] w fun r w' => r = .returned (.tuple #[]) ∧ ∃ mb', MaBox w' p ax mb' (.slice none 0 0) ep (.pointer none) (joinP M x l) ∧ Fr w w' (MaB p mb) ∧ ∀ b, mb' = some b → mb = some b ∨ w.heap.size ≤ b := by
  have HA : Hid (MaBox w p ax mb (.slice none 0 0) ep (.pointer none) M) := h
  have HL : Hid (M.length ≤ 999999) := hl
  obtain ⟨-, c1, -, -, c4⟩ := h.c
  have hlk := wlook h.wk hx
  rw [life_val] at hlk
  by_cases h0 : x < 0
  · have hM' : joinP M x l = M := if_neg (fun h => by omega)
    rw [hM']
    clear h hM' hlk
    go_enter Tryz.func73, Tryz.ntmps73
    go_wp2
    refine bodyPost_ret (results_none rfl _ _ _) rfl ?_
    exact ⟨rfl, mb, HA.out, Fr.refl _ _, fun b hb => .inl hb⟩
  · by_cases h64 : 64 ≤ x
    · have hM' : joinP M x l = M := if_neg (fun h => by omega)
      rw [hM']
      have h00 : 0 ≤ x := by omega
      clear h hM' hlk h0
      go_enter Tryz.func73, Tryz.ntmps73
      go_wp2
      refine bodyPost_ret (results_none rfl _ _ _) rfl ?_
      exact ⟨rfl, mb, HA.out, Fr.refl _ _, fun b hb => .inl hb⟩
    · have h00 : 0 ≤ x := by omega
      have h64' : x < 64 := by omega
      have HPut : Hid (∀ (W : World) (b : Nat) (M : List Pz), WMap W b M → M.length ≤ 999999 → ∃ w', (Instr.mapUpdate 90 (.map (some b)) (.int .i64 x) (.int .i64 l)).run Tryz.prog W = .ok () w' ∧ WMap w' b (insP M ⟨x, l⟩) ∧ Fr W w' (fun k => k = b)) := fun W b M hM hl => wput hM (by omega) hx hl6
      have hmm := @run_makeMap Tryz.prog
      have hq := fun (w : World) (r : Option Nat) => Go.run_eql_map_nil (P := Tryz.prog) w 90 _ _ r Tryz.underlying90
      cases hs : (getP M x).isSome with
      | true =>
        rw [hs] at hlk
        by_cases hlt : l ≤ lifeP M x
        · have hM' : joinP M x l = M := if_neg (fun h => by have := h.2.2 hs; omega)
          rw [hM']
          generalize lifeP M x = lx at hlk hlt
          clear h hM' hs h0 h64
          go_enter Tryz.func73, Tryz.ntmps73
          go_wp2
          refine bodyPost_ret (results_none rfl _ _ _) rfl ?_
          exact ⟨rfl, mb, HA.out, Fr.refl _ _, fun b hb => .inl hb⟩
        · have hM' : joinP M x l = insP M ⟨x, l⟩ := if_pos ⟨h00, h64', fun _ => by omega⟩
          rw [hM']
          cases mb with
          | none =>
            have e : M = [] := h.wk
            subst e
            simp [getP] at hs
          | some b =>
            have hLo := mlose_idle (l := lifeP M x) h hx
            rw [show loseP M x (lifeP M x) = delP M x from if_pos ⟨hs, rfl⟩] at hLo
            have HDl : Hid ((delP M x).length ≤ 999999) := Nat.le_trans (List.length_filter_le _ _) hl
            have HIn : Hid (insP (delP M x) ⟨x, l⟩ = insP M ⟨x, l⟩) := del_ins M ⟨x, l⟩
            have HIl : Hid ((insP M ⟨x, l⟩).length ≤ 1000000) := by have := insP_len M ⟨x, l⟩; show _ ≤ _; omega
            have hlt2 : lifeP M x < l := by omega
            generalize lifeP M x = lx at hlk hlt2 hLo
            clear h hM' hs hlt h0 h64
            go_enter Tryz.func73, Tryz.ntmps73
            go_upto_region 5 with (go_at_call 74; refine hLo.mono ?_; rintro r w1 ⟨rfl, hA1, hF1⟩)
            have HA1 : Hid (MaBox w1 p ax (some b) (.slice none 0 0) ep (.pointer none) (delP M x)) := hA1
            have HF1 : Hid (Fr w w1 (MaB p (some b))) := hF1
            obtain ⟨W3, hrun, hM4, hF4⟩ := HPut.out w1 b _ HA1.out.wk HDl.out
            have HF4 : Hid (Fr w1 W3 (fun k => k = b)) := hF4
            have HA3 : Hid (MaBox W3 p ax (some b) (.slice none 0 0) ep (.pointer none) (insP M ⟨x, l⟩)) := by
              rw [HIn.out] at hM4
              exact ⟨(hF4.block p HA1.out.lt (fun e => HA1.out.ne b rfl e.symm)).trans HA1.out.box, hM4, HA1.out.ne⟩
            obtain ⟨-, d1, -, -, -⟩ := HA1.out.c
            have hGo := mgoon_idle HA3.out HIl.out
            clear hA1 hF1 hM4 hF4 hLo hlk c1 c4
            go_wp2_with (go_at_call 129; refine hGo.mono ?_; rintro r w4 ⟨rfl, hA4, hF4⟩)
            go_end0
            refine ⟨rfl, some b, hA4, ?_, fun b' hb => .inl hb⟩
            exact (HF1.out.trans (HF4.out.mono (fun k _ hk => .inr (by rw [hk]))) (fun _ _ h => h)).trans (hF4.mono (fun k _ hk => .inl hk)) (fun _ _ h => h)
      | false =>
        rw [hs] at hlk
        have hM' : joinP M x l = insP M ⟨x, l⟩ := if_pos ⟨h00, h64', fun h => by rw [hs] at h; cases h⟩
        rw [hM']
        have HIl : Hid ((insP M ⟨x, l⟩).length ≤ 1000000) := by have := insP_len M ⟨x, l⟩; show _ ≤ _; omega
        generalize lifeP M x = lx at hlk
        cases mb with
        | none =>
          have e : M = [] := h.wk
          subst e
          have f1 := h.f 1
          clear h hM' hs h0 h64
          go_enter Tryz.func73, Tryz.ntmps73
          go_upto_region 6 with (fail)
          obtain ⟨W1, hW1⟩ : ∃ W1, w.alloc (.map #[] 0) = W1 := ⟨_, rfl⟩
          have b1 : Below w.heap.size w W1 := by rw [← hW1]; exact ma_new _ _
          have HA2 : Hid (MaBox W1 p ax none (.slice none 0 0) ep (.pointer none) []) := HA.out.new b1
          have g1 := HA2.out.f 1
          obtain ⟨-, d1, -, -, -⟩ := HA2.out.c
          have HM2 : Hid (WMap W1 w.heap.size []) := by show WMap _ _ _; rw [← hW1]; exact WMap.made w
          have HB2 : Hid (Below w.heap.size w W1) := b1
          have HX : Hid (p < w.heap.size) := HA.out.lt
          clear b1
          go_upto_region 7 with (fail)
          generalize hW2 : World.setCell _ _ _ = W2
          have hF2 : Fr W1 W2 (fun k => k = p) := by rw [← hW2]; exact Fr.setCell (S := fun k => k = p) _ ⟨p, 1, none⟩ _ rfl
          have HBx : Hid (W2.heap[p]? = some (.cells #[ax, .map (some w.heap.size), .slice none 0 0, .int .i64 ep, .pointer none] 160 (0, 0))) := by
            show _ = _
            rw [← hW2]
            exact ma_set _ HA2.out.box
          have HM3 : Hid (WMap W2 w.heap.size []) := HM2.out.kept hF2 (fun e => by have := HX.out; omega)
          have HF2 : Hid (Fr W1 W2 (fun k => k = p)) := hF2
          clear hW2 hF2 hW1 c1 c4 d1 f1 g1 hmm hq
          obtain ⟨b, hb⟩ : ∃ b, w.heap.size = b := ⟨_, rfl⟩
          have HBb : Hid (w.heap.size = b) := hb
          rw [hb] at HBx HM3 ⊢
          clear hb
          have c2 : W2.cell? ⟨p, 1, none⟩ = some (.map (some b)) := by simp [World.cell?, HBx.out]
          obtain ⟨W3, hrun, hM4, hF4⟩ := HPut.out W2 b [] HM3.out (by simp)
          have HF4 : Hid (Fr W2 W3 (fun k => k = b)) := hF4
          have HNe : Hid (b ≠ p) := fun e => by have := HX.out; have := HBb.out; omega
          have HA3 : Hid (MaBox W3 p ax (some b) (.slice none 0 0) ep (.pointer none) (insP [] ⟨x, l⟩)) := ⟨(hF4.block p (ma_lt HBx.out) (fun e => HNe.out e.symm)).trans HBx.out, hM4, fun b' hb e => by cases hb; exact HNe.out e⟩
          have hGo := mgoon_idle HA3.out HIl.out
          clear hM4 hF4 hlk
          go_wp2_with (go_at_call 129; refine hGo.mono ?_; rintro r w4 ⟨rfl, hA4, hF4⟩)
          go_end0
          refine ⟨rfl, some b, hA4, ?_, fun b' hb => .inr (by cases hb; exact Nat.le_of_eq HBb.out)⟩
          have f1 : Fr w W2 (MaB p none) := (Fr.ofBelow HB2.out (MaB p none)).trans (HF2.out.mono (fun k _ hk => .inl hk)) (fun _ _ h => h)
          have f2 : Fr W2 w4 (fun k => k = b ∨ k = p) := (HF4.out.mono (fun k _ hk => .inl hk)).trans (hF4.mono (fun k _ hk => .inr hk)) (fun _ _ h => h)
          refine f1.trans f2 (fun k hk h => ?_)
          rcases h with h | h
          · have := HBb.out; omega
          · exact .inl h
        | some b =>
          obtain ⟨W3, hrun, hM4, hF4⟩ := HPut.out w b M h.wk hl
          have HF4 : Hid (Fr w W3 (fun k => k = b)) := hF4
          have HA3 : Hid (MaBox W3 p ax (some b) (.slice none 0 0) ep (.pointer none) (insP M ⟨x, l⟩)) := ⟨(hF4.block p h.lt (fun e => h.ne b rfl e.symm)).trans h.box, hM4, h.ne⟩
          have hGo := mgoon_idle HA3.out HIl.out
          clear h hM' hs h0 h64 hM4 hF4
          go_enter Tryz.func73, Tryz.ntmps73
          go_wp2_with (go_at_call 129; refine hGo.mono ?_; rintro r w4 ⟨rfl, hA4, hF4⟩)
          go_end0
          exact ⟨rfl, some b, hA4, (HF4.out.mono (fun k _ hk => .inr (by rw [hk]))).trans (hF4.mono (fun k _ hk => .inl hk)) (fun _ _ h => h), fun b' hb => .inl hb⟩
end Go.Proofs.YtidghoipmggklaaGreat
