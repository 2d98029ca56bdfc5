/- New, held, sorted, For, Has, Drop of a box. -/
import Derived.Test.YtfajkfngjfhkoabCbSort
namespace Go.Proofs.Ytfajkfngjfhkoab
open Go.RowKit Go.Sort
theorem new_box (w : World) : Calls Try.prog 29 #[] w fun e w' => e = .returned (.pointer (some ⟨w.heap.size, 0, none⟩)) ∧ w' = w.alloc (.cells #[.map none] 75) := by
  go_enter Try.func29, Try.ntmps29
  go_wp2
  go_ret
  exact ⟨rfl, rfl⟩
theorem BX.made (w : World) {S : Nat → Prop} (h : S w.heap.size) : BX (w.alloc (.cells #[.map none] 75)) S w.heap.size 0 [] := ⟨⟨_, heap_alloc_new w _, .none rfl⟩, h⟩
theorem held_box {w : World} {b : Nat} {mv : Value} (h : w.heap[b]? = some (.cells #[mv] 75 (0, 0))) : Calls Try.prog 33 #[.pointer (some ⟨b, 0, none⟩)] w fun e w' => e = .returned mv ∧ w' = w := by
  obtain ⟨p0, p1⟩ := bx_one h
  go_enter Try.func33, Try.ntmps33
  go_wp2
  go_ret
  exact ⟨rfl, rfl⟩
theorem held_nil (w : World) : Calls Try.prog 33 #[.pointer none] w fun e w' => e = .returned (.map none) ∧ w' = w := by
  go_enter Try.func33, Try.ntmps33
  go_wp2
  go_ret
  exact ⟨rfl, rfl⟩
theorem cloneM_any {w : World} {P : Nat → Prop} {b off : Nat} (L : List Msg) (c : Nat) (h : MsAt w P (some ⟨b, off, none⟩) L) (hl : L.length * 32 ≤ 140737488355328) :
    Calls Try.prog 37 #[.slice (some ⟨b, off, none⟩) L.length c] w fun e w' => ∃ g cap, e = .returned (.slice (some ⟨g, 0, none⟩) L.length cap) ∧ w.heap.size ≤ g ∧ Mo w' 24 (.slice (some ⟨g, 0, none⟩) L.length cap) L ∧ Below w.heap.size w w' := by
  obtain ⟨i0, hi, hz0, hz1, hz2⟩ := info_parts infoMsg
  have hc : ∀ j u, (L.flatMap msgCells)[j]? = some u → w.cell? ⟨b, off + j, none⟩ = some u := by
    intro j u hj
    obtain ⟨hlt, _⟩ := List.getElem?_eq_some_iff.1 hj
    rw [msg_len] at hlt
    obtain ⟨b', off', e, _, hcs⟩ := h (by omega)
    cases e
    rw [flat_get L j hlt] at hj
    obtain ⟨a0, a1, a2, a3⟩ := hcs (j / 4) (by omega)
    have e : off + j = off + j / 4 * 4 + j % 4 := by omega
    rw [e]
    have hr : j % 4 < 4 := by omega
    generalize j % 4 = r at hj hr
    match r, hr, hj with
    | 0, _, hj => simp [msgCells] at hj; rw [Nat.add_zero, a0, hj]
    | 1, _, hj => simp [msgCells] at hj; rw [a1, hj]
    | 2, _, hj => simp [msgCells] at hj; rw [a2, hj]
    | 3, _, hj => simp [msgCells] at hj; rw [a3, hj]
  have hcon := AnyE.slices_Clone layClone i0 _ 4 32 hi hz0 hz1 hz2 rfl (by decide) sizeMsg b off L.length c (L.flatMap msgCells) w (msg_len L) (by unfold maxLen; omega) (by omega) hc (by
    intro u hu
    obtain ⟨m, _, hm⟩ := List.mem_flatMap.1 hu
    exact msgOne m u hm)
  change Calls Try.prog 37 _ _ _ at hcon
  refine hcon.mono ?_
  rintro e w' ⟨v', rfl, hown, hne, hb⟩
  rcases hown.2 with ⟨h1, _⟩ | ⟨g, cap, cur, rfl, h2, hr⟩
  · exact absurd h1 hne
  · exact ⟨g, cap, rfl, h2, ⟨hown.1, Or.inr ⟨g, cap, cur, rfl, Nat.zero_le _, hr⟩⟩, hb⟩
theorem cloneM_nil (w : World) : Calls Try.prog 37 #[.slice none 0 0] w fun e w' => e = .returned (.slice none 0 0) ∧ w' = w := AnyE.slices_Clone_nil layClone 0 0 w
theorem sortF_nil (w : World) : Calls Try.prog 49 #[.slice none 0 0, .func (.func 50) #[] #[]] w fun e w' => e = .returned (.tuple #[]) ∧ w' = w := AnyF.slices_SortFunc_none { laySort with } none 0 _ w
set_option maxRecDepth 100000 in
theorem sorted_nil (w : World) : Calls Try.prog 36 #[.slice none 0 0] w fun e w' => e = .returned (.slice none 0 0) ∧ w' = w := by
  go_enter Try.func36, Try.ntmps36
  go_wp2_with (first
    | (go_at_call 37; refine (cloneM_nil _).mono ?_; rintro e w1 ⟨rfl, rfl⟩)
    | (go_at_call 49; refine (sortF_nil _).mono ?_; rintro e w1 ⟨rfl, rfl⟩))
  go_ret
  exact ⟨rfl, rfl⟩
/-- A new list of one's own. -/
def MoNew (w w' : World) (v : Value) (L : List Msg) : Prop := Mo w' 24 v L ∧ (∀ k, v.ownBlock = some k → w.heap.size ≤ k) ∧ Below w.heap.size w w'
set_option maxRecDepth 100000 in
theorem sorted_some {w : World} {P : Nat → Prop} {b off : Nat} (L : List Msg) (c : Nat) (h : MsAt w P (some ⟨b, off, none⟩) L) (hl : L.length * 32 ≤ 140737488355328) :
    Calls Try.prog 36 #[.slice (some ⟨b, off, none⟩) L.length c] w fun e w' => ∃ v, e = .returned v ∧ MoNew w w' v (sortM L) := by
  have HH : Hid (MsAt w P (some ⟨b, off, none⟩) L) := h
  clear h
  go_enter Try.func36, Try.ntmps36
  go_wp2_with (first
    | (go_at_call 37; refine (cloneM_any L c HH.out hl).mono ?_; rintro e w1 ⟨g, cap, rfl, hg, ho, hb⟩; have HO : Hid _ := ho; have HB : Hid _ := hb; clear ho hb)
    | (go_at_call 49; refine (sortF_any HO.out (by omega)).mono ?_; rintro e w2 ⟨rfl, ho2, hg2⟩; have HO2 : Hid _ := ho2; have HG2 : Hid _ := hg2; clear ho2 hg2))
  go_ret
  refine ⟨_, rfl, HO2.out, fun k hk => ?_, ?_⟩
  · cases hk; exact hg
  · exact HB.out.trans ((Fr.grown (S := fun k => k = g) HG2.out (fun k hk => by cases hk; rfl)).below HB.out.size (fun k hk => by omega))
theorem sorted_any {w : World} {v : Value} {L : List Msg} (h : Mo w 24 v L) (hl : L.length * 32 ≤ 140737488355328) : Calls Try.prog 36 #[v] w fun e w' => ∃ v', e = .returned v' ∧ MoNew w w' v' (sortM L) := by
  have h' := h
  rcases h.2 with ⟨rfl, h0⟩ | ⟨g, cap, cur, rfl, _⟩
  · have e : L = [] := List.length_eq_zero_iff.1 h0
    subst e
    refine (sorted_nil w).mono ?_
    rintro e w' ⟨rfl, rfl⟩
    refine ⟨_, rfl, ?_, fun k hk => (by cases hk), Below.refl _ _⟩
    rw [show sortM [] = [] from List.mergeSort_nil]
    exact Mo.nil _ _
  · exact sorted_some L cap h'.at_ hl
theorem look_nil {id : Int} (hid : I64 id) (w : World) : Sem.run Try.prog (Instr.lookup 67 (.map none) (.int .i64 id) false) w = .ok (.slice none 0 0) w := by
  have := Maps.look_nil (P := Try.prog) (w := w) false law64 Try.underlying67 (zeroSl w) (keyOf_i64 hid)
  simpa using this
/-- What stands at a vertex: a row that owns its messages. -/
theorem MH.look {w : World} {S : Nat → Prop} {N : Nat} {B : List Msg} {mv : Value} (h : MH w S N B mv) {id : Int} (hid : I64 id) : ∃ v, Sem.run Try.prog (Instr.lookup 67 mv (.int .i64 id) false) w = .ok v w ∧ Mo w 24 v (toV B id) := by
  rcases h with ⟨rfl, h⟩ | ⟨M, D, rfl, h⟩
  · subst h; exact ⟨_, look_nil hid w, Mo.nil _ _⟩
  · exact ⟨_, h.look hid, h.rows id⟩
theorem toV_le (B : List Msg) (id : Int) : (toV B id).length ≤ B.length := List.length_filter_le _ _
set_option maxRecDepth 100000 in
theorem for_any {w : World} {S : Nat → Prop} {b N : Nat} {B : List Msg} (hX : BX w S b N B) {id : Int} (hid : I64 id) (hl : B.length * 32 ≤ 140737488355328) :
    Calls Try.prog 22 #[.pointer (some ⟨b, 0, none⟩), .int .i64 id] w fun e w' => ∃ v, e = .returned v ∧ MoNew w w' v (sortM (toV B id)) := by
  obtain ⟨⟨mv, h1, h2⟩, h3⟩ := hX
  obtain ⟨v, hlk, hv⟩ := h2.look hid
  have HV : Hid _ := hv
  have H1 : Hid _ := h1
  have hle := toV_le B id
  clear h1 h2 hv
  go_enter Try.func22, Try.ntmps22
  go_wp2_with (first
    | (go_at_call 33; refine (held_box H1.out).mono ?_; rintro e w1 ⟨rfl, rfl⟩)
    | (go_at_call 36; refine (sorted_any HV.out (by omega)).mono ?_; rintro e w2 ⟨v', rfl, hn⟩; have HN : Hid _ := hn; clear hn))
  go_ret
  exact ⟨_, rfl, HN.out⟩
set_option maxRecDepth 100000 in
theorem for_nil {id : Int} (hid : I64 id) (w : World) : Calls Try.prog 22 #[.pointer none, .int .i64 id] w fun e w' => e = .returned (.slice none 0 0) ∧ w' = w := by
  have hlk := look_nil hid w
  go_enter Try.func22, Try.ntmps22
  go_wp2_with (first
    | (go_at_call 33; refine (held_nil _).mono ?_; rintro e w1 ⟨rfl, rfl⟩)
    | (go_at_call 36; refine (sorted_nil _).mono ?_; rintro e w2 ⟨rfl, rfl⟩))
  go_ret
  exact ⟨rfl, rfl⟩
set_option maxRecDepth 100000 in
theorem has_any {w : World} {S : Nat → Prop} {b N : Nat} {B : List Msg} (hX : BX w S b N B) {id : Int} (hid : I64 id) :
    Calls Try.prog 21 #[.pointer (some ⟨b, 0, none⟩), .int .i64 id] w fun e w' => e = .returned (.bool (decide (0 < (toV B id).length))) ∧ w' = w := by
  obtain ⟨⟨mv, h1, h2⟩, h3⟩ := hX
  obtain ⟨v, hlk, hv⟩ := h2.look hid
  obtain ⟨ao, c, rfl⟩ := hv.shape
  have H1 : Hid _ := h1
  clear h1 h2 hv
  go_enter Try.func21, Try.ntmps21
  go_wp2_with (go_at_call 33; refine (held_box H1.out).mono ?_; rintro e w1 ⟨rfl, rfl⟩)
  go_ret
  exact ⟨by simp, rfl⟩
set_option maxRecDepth 100000 in
theorem has_nil {id : Int} (hid : I64 id) (w : World) : Calls Try.prog 21 #[.pointer none, .int .i64 id] w fun e w' => e = .returned (.bool false) ∧ w' = w := by
  have hlk := look_nil hid w
  go_enter Try.func21, Try.ntmps21
  go_wp2_with (go_at_call 33; refine (held_nil _).mono ?_; rintro e w1 ⟨rfl, rfl⟩)
  go_ret
  exact ⟨by simp, rfl⟩
end Go.Proofs.Ytfajkfngjfhkoab
