/- sorted: a list of its own, in order. -/
import Derived.Test.YtmgjlamglhpnaaaGreatCbCmpM
import Derived.Test.YtmgjlamglhpnaaaGreatRnTurn5M
import Derived.Test.YtmgjlamglhpnaaaGreatJbDecM
import Derived.Deep.Cut
import Derived.Deep.DeepCutAuto
import Derived.WalkKit
import Derived.Test.YtmgjlamglhpnaaaGreatProg
import Derived.WalkSpells
import Derived.WalkLawsBesides
import Derived.Laws.StructEq
import Derived.Deep.QuietTactic
namespace Go.Proofs.YtmgjlamglhpnaaaGreat
set_option maxRecDepth 100000
open Go.RowKit Go.Sort
theorem flat_at (L : List Msg) (q r : Nat) (hq : q < L.length) (hr : r < 4) : (L.flatMap msgCells)[q * 4 + r]? = (msgCells L[q])[r]? := by
 obtain ⟨a0, a1, a2, a3⟩ := cells_get L q hq
 match r, hr with
 | 0, _ => rw [Nat.add_zero, a0]; rfl
 | 1, _ => rw [a1]; rfl
 | 2, _ => rw [a2]; rfl
 | 3, _ => rw [a3]; rfl
theorem flat_get (L : List Msg) (t : Nat) (h : t < L.length * 4) : (L.flatMap msgCells)[t]? = (msgCells (L[t / 4]'(by omega)))[t % 4]? := by
 rw [← flat_at L (t / 4) (t % 4) (by omega) (by omega)]
 congr 1
 omega
theorem flatK_list [Inhabited Msg] (L : List Msg) : flatK msgCells 4 L.toArray = (L.flatMap msgCells).toArray := by
 apply Array.ext
 ·rw [size_flatK, List.size_toArray, List.size_toArray, msg_len]
 ·intro t h1 h2
  rw [size_flatK, List.size_toArray] at h1
  have e := get_flatK msgCells 4 L.toArray t (by simpa using h1)
  rw [getElem!_pos _ t (by rw [size_flatK]; simpa using h1)] at e
  rw [e, List.getElem_toArray]
  have hj : t / 4 < L.length := by omega
  have e2 := flat_get L t h1
  rw [List.getElem?_eq_getElem (by rw [msg_len]; exact h1)] at e2
  have e3 : L.toArray[t / 4]! = L[t / 4] := by rw [getElem!_pos L.toArray (t / 4) (by simpa using hj)]; simp
  rw [e3]
  have h4 : t % 4 < (msgCells L[t / 4]).length := by simp [msgCells]; omega
  rw [getElem!_pos (msgCells L[t / 4]) (t % 4) h4]
  rw [List.getElem?_eq_getElem h4] at e2
  exact (Option.some.inj e2).symm
theorem take_put (cur : Array Value) (xs : List Value) (h : xs.length ≤ cur.size) : (putCells id 0 xs.toArray cur).toList.take xs.length = xs := by
 apply List.ext_getElem?
 intro j
 by_cases hj : j < xs.length
 ·rw [List.getElem?_take_of_lt hj, Array.getElem?_toList]
  simp [putCells, hj, show j < cur.size by omega]
 ·rw [List.getElem?_take_eq_none (by omega), List.getElem?_eq_none (by omega)]
theorem sorted_heap [Inhabited Msg] {w : World} {g n : Nat} {os : Array Obj} {cur : Array Value} {e : TypeId} (L : List Msg) (hb : w.heap[g]? = some (.cells cur e (0, 0))) :
  (sortWorldK msgCells 4 w g 0 n L.toArray os).heap[g]? = some (.cells (putCells id 0 (L.flatMap msgCells).toArray cur) e (0, 0)) := by
 have hg : g < w.heap.size := (Array.getElem?_eq_some_iff.1 hb).1
 unfold sortWorldK putRowK
 rw [heap_grow_old _ _ (by simpa using hg), flatK_list]
 simp [putRow, mapBlock, Sort.ahead, Array.getElem?_modify, hb, onCells]
theorem sorted_grown [Inhabited Msg] {w : World} {g n : Nat} {os : Array Obj} (d : Array Msg) : w.grownBy (sortWorldK msgCells 4 w g 0 n d os) (some g) := by
 refine ⟨rfl, rfl, rfl, by simp [sortWorldK, putRowK], fun k hk hne => ?_⟩
 unfold sortWorldK putRowK
 rw [heap_grow_old _ _ (by simpa using hk)]
 have : g ≠ k := fun e => hne (by rw [e])
 simp [putRow, mapBlock, Sort.ahead, Array.getElem?_modify, this]
theorem lt_cmp (x y : Msg) : ltOf cmpM x y = mlt x y := cmpM_lt x y
theorem cmp_swo : SWO (ltOf cmpM) where
 irrefl x := by rw [lt_cmp]; exact mlt_irrefl x
 trans x y z h1 h2 := by rw [lt_cmp] at *; exact mlt_trans x y z h1 h2
 ntrans x y z h1 h2 := by rw [lt_cmp] at *; exact mlt_ntrans x y z h1 h2
theorem cmp_total (x y : Msg) (h : ltOf cmpM x y = false) (h' : ltOf cmpM y x = false) : x = y := by
 rw [lt_cmp] at *
 exact mlt_total x y h h'
theorem merge_sortM (L : List Msg) : (L.mergeSort fun x y => !ltOf cmpM y x) = sortM L := by
 unfold sortM
 congr 1
 funext x y
 unfold mle
 rw [lt_cmp]
theorem aggMsg : ∀ w, (isAgg 201).run Tryz.prog w = .ok true w := Tryz.isAgg201
theorem sizeMsg : ∀ w, (Go.sizeOf 201).run Tryz.prog w = .ok 4 w := Tryz.sizeOf201
theorem cmp_enters : ∀ args w, (callFunc 149 args).run Tryz.prog w = .ok (.enter 149 args) w := enters_of Tryz.func149 (by kernel_rfl) rfl
theorem holds_msgs [Inhabited Msg] {w : World} {g n cap : Nat} {L : List Msg} (h : Mo w 201 (.slice (some ⟨g, 0, none⟩) n cap) L) : HoldsK msgCells 4 w g 0 L.toArray := by
 intro j hj
 rw [flatK_list] at hj ⊢
 rw [List.size_toArray] at hj
 have hc : w.cell? ⟨g, 0 + j, none⟩ = some (L.flatMap msgCells)[j] := by
  have := World.ownsRow.cells h (g := g) rfl j _ (List.getElem?_eq_getElem hj)
  by_cases e : j = 0
  ·subst e; simpa [Addr.add] using this
  ·simpa [Addr.add, e] using this
 refine ⟨?_, ?_⟩
 ·rw [hc, getElem!_pos _ _ (by simpa using hj)]; simp
 ·rcases h.2 with ⟨h1, _⟩ | ⟨g', cap', cur, h1, _, hg, _⟩
  ·cases h1
  ·cases h1
   simp [World.frozen?, hg]
theorem sortF_any {w : World} {g cap : Nat} {L : List Msg} (h : Mo w 201 (.slice (some ⟨g, 0, none⟩) L.length cap) L) (hs : L.length < 4611686018427387904) :
  Calls Tryz.prog 148 #[.slice (some ⟨g, 0, none⟩) L.length cap, .func (.func 149) #[] #[]] w fun e w' => e = .returned (.tuple #[]) ∧ Mo w' 201 (.slice (some ⟨g, 0, none⟩) L.length cap) (sortM L) ∧ w.grownBy w' (some g) := by
 haveI : Inhabited Msg := ⟨⟨0, 0, 0, 0⟩⟩
 have hcon := AnyQ.slices_SortFunc_total laySort 4 aggMsg sizeMsg msgCells (fun _ => rfl) (fun x => msgOne x) cmpM cmp_swo 149 #[] g 0 cap L.toArray w cmp_enters (fun _ _ _ _ x y => compare_msg x y _) (holds_msgs h) (h.lt g rfl) (by simpa using hs) cmp_total
 change Calls Tryz.prog 148 _ _ _ at hcon
 rw [List.size_toArray, merge_sortM] at hcon
 refine hcon.mono ?_
 rintro e w' ⟨rfl, n, os, rfl⟩
 refine ⟨rfl, ?_, sorted_grown _⟩
 rcases h.2 with ⟨h1, _⟩ | ⟨g', cap', cur, h1, h2, hg, hn, hc, hcs, ht⟩
 ·cases h1
 ·cases h1
  refine ⟨msg_len _, Or.inr ⟨g, cap, _, by rw [sortM_len], h2, sorted_heap _ hg, by rw [sortM_len]; exact hn, hc, by simp [putCells, hcs], ?_⟩⟩
  have := take_put cur ((sortM L).flatMap msgCells) (by rw [msg_len, sortM_len, hcs]; exact Nat.mul_le_mul_right _ hn)
  rwa [msg_len] at this
section
open Go.RowKit Go.Sort
theorem new_box (w : World) : Calls Tryz.prog 81 #[] w fun e w' => e = .returned (.pointer (some ⟨w.heap.size, 0, none⟩)) ∧ w' = w.alloc (.cells #[.map none] 179) := by
 go_enter Tryz.func81, Tryz.ntmps81
 go_wp2
 go_ret
 exact ⟨rfl, rfl⟩
theorem BX.made (w : World) {S : Nat → Prop} (h : S w.heap.size) : BX (w.alloc (.cells #[.map none] 179)) S w.heap.size 0 [] := ⟨⟨_, heap_alloc_new w _, .none rfl⟩, h⟩
theorem held_box {w : World} {b : Nat} {mv : Value} (h : w.heap[b]? = some (.cells #[mv] 179 (0, 0))) : Calls Tryz.prog 122 #[.pointer (some ⟨b, 0, none⟩)] w fun e w' => e = .returned mv ∧ w' = w := by
 obtain ⟨p0, p1⟩ := bx_one h
 go_enter Tryz.func122, Tryz.ntmps122
 go_wp2
 go_ret
 exact ⟨rfl, rfl⟩
theorem cloneM_any {w : World} {P : Nat → Prop} {b off : Nat} (L : List Msg) (c : Nat) (h : MsAt w P (some ⟨b, off, none⟩) L) (hl : L.length * 32 ≤ 140737488355328) :
  Calls Tryz.prog 125 #[.slice (some ⟨b, off, none⟩) L.length c] w fun e w' => ∃ g cap, e = .returned (.slice (some ⟨g, 0, none⟩) L.length cap) ∧ w.heap.size ≤ g ∧ Mo w' 201 (.slice (some ⟨g, 0, none⟩) L.length cap) L ∧ Below w.heap.size w w' := by
 obtain ⟨i0, hi, hz0, hz1, hz2⟩ := info_parts infoMsg
 have hc : ∀ j u, (L.flatMap msgCells)[j]? = some u → w.cell? ⟨b, off + j, none⟩ = some u := by
  intro j u hj
  obtain ⟨hlt, _⟩ := List.getElem?_eq_some_iff.1 hj
  rw [msg_len] at hlt
  obtain ⟨b', off', e, _, hcs⟩ := h (by omega)
  cases e
  rw [flat_get L j hlt] at hj
  obtain ⟨a0, a1, a2, a3⟩ := hcs (j / 4) (by omega)
  have e : off + j = off + j / 4 * 4 + j % 4 := by omega
  rw [e]
  have hr : j % 4 < 4 := by omega
  generalize j % 4 = r at hj hr
  match r, hr, hj with
  | 0, _, hj => simp [msgCells] at hj; rw [Nat.add_zero, a0, hj]
  | 1, _, hj => simp [msgCells] at hj; rw [a1, hj]
  | 2, _, hj => simp [msgCells] at hj; rw [a2, hj]
  | 3, _, hj => simp [msgCells] at hj; rw [a3, hj]
 have hcon := AnyE.slices_Clone layClone i0 _ 4 32 hi hz0 hz1 hz2 rfl (by decide) sizeMsg b off L.length c (L.flatMap msgCells) w (msg_len L) (by unfold maxLen; omega) (by omega) hc (by
  intro u hu
  obtain ⟨m, _, hm⟩ := List.mem_flatMap.1 hu
  exact msgOne m u hm)
 change Calls Tryz.prog 125 _ _ _ at hcon
 refine hcon.mono ?_
 rintro e w' ⟨v', rfl, hown, hne, hb⟩
 rcases hown.2 with ⟨h1, _⟩ | ⟨g, cap, cur, rfl, h2, hr⟩
 ·exact absurd h1 hne
 ·exact ⟨g, cap, rfl, h2, ⟨hown.1, Or.inr ⟨g, cap, cur, rfl, Nat.zero_le _, hr⟩⟩, hb⟩
theorem cloneM_nil (w : World) : Calls Tryz.prog 125 #[.slice none 0 0] w fun e w' => e = .returned (.slice none 0 0) ∧ w' = w := AnyE.slices_Clone_nil layClone 0 0 w
theorem sortF_nil (w : World) : Calls Tryz.prog 148 #[.slice none 0 0, .func (.func 149) #[] #[]] w fun e w' => e = .returned (.tuple #[]) ∧ w' = w := AnyF.slices_SortFunc_none { laySort with } none 0 _ w
theorem sorted_nil (w : World) : Calls Tryz.prog 127 #[.slice none 0 0] w fun e w' => e = .returned (.slice none 0 0) ∧ w' = w := by
 go_enter Tryz.func127, Tryz.ntmps127
 go_wp2_with (first
  | (go_at_call 125; refine (cloneM_nil _).mono ?_; rintro e w1 ⟨rfl, rfl⟩)
  | (go_at_call 148; refine (sortF_nil _).mono ?_; rintro e w1 ⟨rfl, rfl⟩))
 go_ret
 exact ⟨rfl, rfl⟩
def MoNew (w w' : World) (v : Value) (L : List Msg) : Prop := Mo w' 201 v L ∧ (∀ k, v.ownBlock = some k → w.heap.size ≤ k) ∧ Below w.heap.size w w'
theorem sorted_some {w : World} {P : Nat → Prop} {b off : Nat} (L : List Msg) (c : Nat) (h : MsAt w P (some ⟨b, off, none⟩) L) (hl : L.length * 32 ≤ 140737488355328) :
  Calls Tryz.prog 127 #[.slice (some ⟨b, off, none⟩) L.length c] w fun e w' => ∃ v, e = .returned v ∧ MoNew w w' v (sortM L) := by
 have HH : Hid (MsAt w P (some ⟨b, off, none⟩) L) := h
 clear h
 go_enter Tryz.func127, Tryz.ntmps127
 go_wp2_with (first
  | (go_at_call 125; refine (cloneM_any L c HH.out hl).mono ?_; rintro e w1 ⟨g, cap, rfl, hg, ho, hb⟩; have HO : Hid _ := ho; have HB : Hid _ := hb; clear ho hb)
  | (go_at_call 148; refine (sortF_any HO.out (by omega)).mono ?_; rintro e w2 ⟨rfl, ho2, hg2⟩; have HO2 : Hid _ := ho2; have HG2 : Hid _ := hg2; clear ho2 hg2))
 go_ret
 refine ⟨_, rfl, HO2.out, fun k hk => ?_, ?_⟩
 ·cases hk; exact hg
 ·exact HB.out.trans ((Fr.grown (S := fun k => k = g) HG2.out (fun k hk => by cases hk; rfl)).below HB.out.size (fun k hk => by omega))
theorem sorted_any {w : World} {v : Value} {L : List Msg} (h : Mo w 201 v L) (hl : L.length * 32 ≤ 140737488355328) : Calls Tryz.prog 127 #[v] w fun e w' => ∃ v', e = .returned v' ∧ MoNew w w' v' (sortM L) := by
 have h' := h
 rcases h.2 with ⟨rfl, h0⟩ | ⟨g, cap, cur, rfl, _⟩
 ·have e : L = [] := List.length_eq_zero_iff.1 h0
  subst e
  refine (sorted_nil w).mono ?_
  rintro e w' ⟨rfl, rfl⟩
  refine ⟨_, rfl, ?_, fun k hk => (by cases hk), Below.refl _ _⟩
  rw [show sortM [] = [] from List.mergeSort_nil]
  exact Mo.nil _ _
 ·exact sorted_some L cap h'.at_ hl
theorem look_nil {id : Int} (hid : I64 id) (w : World) : Sem.run Tryz.prog (Instr.lookup 177 (.map none) (.int .i64 id) false) w = .ok (.slice none 0 0) w := by
 have := Maps.look_nil (P := Tryz.prog) (w := w) false law64 Tryz.underlying177 (zeroSl w) (keyOf_i64 hid)
 simpa using this
theorem MH.look {w : World} {S : Nat → Prop} {N : Nat} {B : List Msg} {mv : Value} (h : MH w S N B mv) {id : Int} (hid : I64 id) : ∃ v, Sem.run Tryz.prog (Instr.lookup 177 mv (.int .i64 id) false) w = .ok v w ∧ Mo w 201 v (toV B id) := by
 rcases h with ⟨rfl, h⟩ | ⟨M, D, rfl, h⟩
 ·subst h; exact ⟨_, look_nil hid w, Mo.nil _ _⟩
 ·exact ⟨_, h.look hid, h.rows id⟩
theorem toV_le (B : List Msg) (id : Int) : (toV B id).length ≤ B.length := List.length_filter_le _ _
theorem for_any {w : World} {S : Nat → Prop} {b N : Nat} {B : List Msg} (hX : BX w S b N B) {id : Int} (hid : I64 id) (hl : B.length * 32 ≤ 140737488355328) :
  Calls Tryz.prog 109 #[.pointer (some ⟨b, 0, none⟩), .int .i64 id] w fun e w' => ∃ v, e = .returned v ∧ MoNew w w' v (sortM (toV B id)) := by
 obtain ⟨⟨mv, h1, h2⟩, h3⟩ := hX
 obtain ⟨v, hlk, hv⟩ := h2.look hid
 have HV : Hid _ := hv
 have H1 : Hid _ := h1
 have hle := toV_le B id
 clear h1 h2 hv
 go_enter Tryz.func109, Tryz.ntmps109
 go_wp2_with (first
  | (go_at_call 122; refine (held_box H1.out).mono ?_; rintro e w1 ⟨rfl, rfl⟩)
  | (go_at_call 127; refine (sorted_any HV.out (by omega)).mono ?_; rintro e w2 ⟨v', rfl, hn⟩; have HN : Hid _ := hn; clear hn))
 go_ret
 exact ⟨_, rfl, HN.out⟩
theorem has_any {w : World} {S : Nat → Prop} {b N : Nat} {B : List Msg} (hX : BX w S b N B) {id : Int} (hid : I64 id) :
  Calls Tryz.prog 103 #[.pointer (some ⟨b, 0, none⟩), .int .i64 id] w fun e w' => e = .returned (.bool (decide (0 < (toV B id).length))) ∧ w' = w := by
 obtain ⟨⟨mv, h1, h2⟩, h3⟩ := hX
 obtain ⟨v, hlk, hv⟩ := h2.look hid
 obtain ⟨ao, c, rfl⟩ := hv.shape
 have H1 : Hid _ := h1
 clear h1 h2 hv
 go_enter Tryz.func103, Tryz.ntmps103
 go_wp2_with (go_at_call 122; refine (held_box H1.out).mono ?_; rintro e w1 ⟨rfl, rfl⟩)
 go_ret
 exact ⟨by simp, rfl⟩
end
section
open Go.RowKit
def act (s : St) (id : Int) : Bool := !s.H id || decide (0 < (toV s.B id).length)
def many (s : St) : Nat := (s.G.filter (fun v => act s v.id)).length
section
variable {w : World} {S : Nat → Prop} {p n : Nat} {s : St} {sv : Value} {M : List (Vx × Value)} {hm bx : Nat} {SB : Nat → Prop}
theorem PA.len (h : PA w S p n s sv M hm bx SB) : M.length = s.G.length := by rw [← h.gs, List.length_map]
theorem PA.at_ (h : PA w S p n s sv M hm bx SB) : ∃ ao cap, sv = .slice ao s.G.length cap ∧ VxAt w (fun _ => True) ao s.G := by
 obtain ⟨ao, cap, e, hv⟩ := h.gw.at_
 rw [h.len] at e
 rw [h.gs] at hv
 exact ⟨ao, cap, e, hv.mono (fun _ _ _ => trivial)⟩
theorem vertices_any (h : PA w S p n s sv M hm bx SB) : Calls Tryz.prog 82 #[.pointer (some ⟨p, 0, none⟩)] w fun r w' => r = .returned sv ∧ w' = w := by
 obtain ⟨c0, c1, c2⟩ := h.cells
 obtain ⟨ao, cap, rfl, _⟩ := h.at_
 clear h
 go_enter Tryz.func82, Tryz.ntmps82
 go_wp2
 go_ret
 exact ⟨rfl, rfl⟩
theorem active_any (h : PA w S p n s sv M hm bx SB) {id : Int} (hid : I64 id) : Calls Tryz.prog 83 #[.pointer (some ⟨p, 0, none⟩), .int .i64 id] w fun r w' => r = .returned (.bool (act s id)) ∧ w' = w := by
 obtain ⟨c0, c1, c2⟩ := h.cells
 have hlk := h.hal.look hid
 have HB : Hid _ := h.box
 have HA : Hid (act s id = (!s.H id || decide (0 < (toV s.B id).length))) := rfl
 clear h
 cases hH : s.H id
 ·rw [hH] at hlk HA
  go_enter Tryz.func83, Tryz.ntmps83
  go_wp2
  go_ret
  exact ⟨by rw [HA.out]; rfl, rfl⟩
 ·rw [hH] at hlk HA
  go_enter Tryz.func83, Tryz.ntmps83
  go_wp2_with (go_at_call 103; refine (has_any HB.out hid).mono ?_; rintro r w1 ⟨rfl, rfl⟩)
  go_ret
  exact ⟨by rw [HA.out]; simp, rfl⟩
theorem many_snoc (s : St) (j : Nat) (h : j < s.G.length) : ((s.G.take (j + 1)).filter (fun v => act s v.id)).length = ((s.G.take j).filter (fun v => act s v.id)).length + if act s s.G[j].id then 1 else 0 := by
 rw [List.take_succ_eq_append_getElem h, List.filter_append, List.length_append]
 congr 1
 by_cases e : act s s.G[j].id <;> simp [e]
set_option maxHeartbeats 1000000 in
theorem Active_any (h : PA w S p n s sv M hm bx SB) (hok : ∀ v ∈ s.G, v.ok) (hl : s.G.length ≤ 1073741824) : Calls Tryz.prog 51 #[.pointer (some ⟨p, 0, none⟩)] w fun r w' => r = .returned (.int .i64 (many s)) ∧ Below w.heap.size w w' := by
 obtain ⟨ao, cap, rfl, hv⟩ := h.at_
 have HV : Hid (VxAt w (fun _ => True) ao s.G) := hv
 have HP : Hid (PA w S p n s (.slice ao s.G.length cap) M hm bx SB) := h
 have HOk : Hid (∀ v ∈ s.G, v.ok) := hok
 obtain ⟨N, HN⟩ : ∃ N, Hid (N = s.G.length) := ⟨_, rfl⟩
 have hN : N ≤ 1073741824 := by rw [HN.out]; exact hl
 clear h hv hok hl
 have HVc : Hid _ := vertices_any HP.out
 rw [← HN.out] at HVc
 go_enter Tryz.func51, Tryz.ntmps51
 go_wp2_with (go_at_call 82; refine Calls.mono HVc.out ?_; rintro r w ⟨rfl, rfl⟩)
 go_loopw [3, 5, 9] (fun u _ i wr => ∃ (j c : Nat), j ≤ N ∧ c ≤ j ∧ Hid (c = ((s.G.take j).filter (fun v => act s v.id)).length) ∧ u = .int .i64 c ∧ i = .int .i64 j ∧ Below w.heap.size w wr) (fun _ _ i _ => N - (intOf i).toNat)
 case atStart => exact ⟨0, 0, Nat.zero_le _, Nat.le_refl _, rfl, rfl, rfl, Below.refl _ _⟩
 case round =>
  obtain ⟨j, c, hj, hcj, HC, rfl, rfl, hb⟩ := hrel
  by_cases hlt : j < N
  ·have hjG : j < s.G.length := by rw [← HN.out]; exact hlt
   obtain ⟨b, off, rfl, _, hc⟩ := HV.out (by omega)
   obtain ⟨eo, ec, e0, e1, e2, -⟩ := hc j hjG
   have hbl := lt_cell e0
   have d0 := (hb.cell (p := ⟨b, off + j * 3, none⟩) hbl).trans e0
   have d1 := (hb.cell (p := ⟨b, off + j * 3 + 1, none⟩) hbl).trans e1
   have d2 := (hb.cell (p := ⟨b, off + j * 3 + 2, none⟩) hbl).trans e2
   have hid := (HOk.out s.G[j] (List.getElem_mem hjG)).id
   have HS : Hid _ := many_snoc s j hjG
   have HAc : Hid _ := fun W (hW : Below w.heap.size w W) => active_any (HP.out.new hW) hid
   generalize s.G[j] = y at d0 d1 d2 hid HS HAc
   have HB : Hid _ := hb
   clear e0 e1 e2 hc hb
   cases ha : act s y.id
   ·rw [ha] at HS HAc
    go_wp2_with (go_at_call 83; refine (HAc.out _ (HB.out.alloc HB.out.size _)).mono ?_; rintro r w1 ⟨rfl, rfl⟩)
    go_roundw
    case rel => exact ⟨j + 1, c, by omega, by omega, by show _ = _; rw [HS.out, ← HC.out]; rfl, rfl, by go_num, HB.out.alloc HB.out.size _⟩
    case measure => simp [intOf]; omega
   ·rw [ha] at HS HAc
    go_wp2_with (go_at_call 83; refine (HAc.out _ (HB.out.alloc HB.out.size _)).mono ?_; rintro r w1 ⟨rfl, rfl⟩)
    go_roundw
    case rel => exact ⟨j + 1, c + 1, by omega, by omega, by show _ = _; rw [HS.out, ← HC.out]; rfl, by go_num, by go_num, HB.out.alloc HB.out.size _⟩
    case measure => simp [intOf]; omega
  ·obtain rfl : j = N := by omega
   have HE : Hid (c = many s) := by show _ = _; rw [HC.out, HN.out, List.take_length]; rfl
   clear HC
   go_wp2
   go_ret
   exact ⟨by rw [HE.out]; rfl, hb⟩
def KN (w : World) (base : Nat) (v : Value) (n : Nat) : Prop := w.ownsRow base 3 1 v n ((List.range n).map (fun q : Nat => Value.int .i64 (q : Int)))
theorem KN.at_ {w : World} {base : Nat} {ao : Option Addr} {n c : Nat} (h : KN w base (.slice ao n c) n) (hn : 0 < n) : ∃ g, ao = some ⟨g, 0, none⟩ ∧ base ≤ g ∧ PlAt w g n := by
 obtain ⟨g, e, hb, hc⟩ := k_at h hn
 exact ⟨g, e, hb, fun q hq => hc q _ (by simp [hq])⟩
theorem infoN : (Tryz.prog.info? 3).map (fun i => (i.zero, i.size, i.bytes)) = some (some (.int .i64 0), 1, 8) := by kernel_rfl
set_option maxHeartbeats 1000000 in
theorem byNumber_any (h : PA w S p n s sv M hm bx SB) (hr : Rise (ids s.G)) (hl : s.G.length ≤ 1073741824) : Calls Tryz.prog 84 #[.pointer (some ⟨p, 0, none⟩)] w fun r w' => ∃ v, r = .returned v ∧ KN w' w.heap.size v s.G.length ∧ Below w.heap.size w w' := by
 obtain ⟨i0, hi, hz0, hz1, hz2⟩ := info_parts infoN
 obtain ⟨ao, cap, rfl, hv⟩ := h.at_
 have HVc : Hid _ := vertices_any h
 have HV : Hid (VxAt w (fun _ => True) ao s.G) := hv
 have HR : Hid (Rise (ids s.G)) := hr
 obtain ⟨N, HN⟩ : ∃ N, Hid (N = s.G.length) := ⟨_, rfl⟩
 have hN : N ≤ 1073741824 := by rw [HN.out]; exact hl
 rw [← HN.out] at HVc ⊢
 clear h hv hr hl
 go_enter Tryz.func84, Tryz.ntmps84
 go_upto_region 2 with (go_at_call 82; refine Calls.mono HVc.out ?_; rintro r w ⟨rfl, rfl⟩)
 generalize hW : World.alloc w _ = W0
 have hB0 : Below w.heap.size w W0 := by rw [← hW]; exact one_newK _ _
 have hc0 : W0.cell? ⟨w.heap.size, 0, none⟩ = some (.slice ao N cap) := by rw [← hW]; simp
 have hs0 : W0.heap.size = w.heap.size + 1 := by rw [← hW]; simp
 have HB0 : Hid _ := hB0
 have HS0 : Hid _ := hs0
 have HV0 : Hid (VxAt W0 (fun _ => True) ao s.G) := VxAt.new HV.out hB0
 clear hW hB0 hs0 HV HVc
 go_wp2
 go_loopw [4, 5, 10] (fun u _ i wr => ∃ (j : Nat) (ro : Option Addr) (c : Nat), j ≤ N ∧ u = .slice ro j c ∧ i = .int .i64 j ∧ KN wr W0.heap.size (.slice ro j c) j ∧ (j = 0 → ro = none ∧ c = 0) ∧ Below W0.heap.size W0 wr) (fun _ _ i _ => N - (intOf i).toNat)
 case atStart => exact ⟨0, none, 0, Nat.zero_le _, rfl, rfl, World.ownsRow_nil _ _ _ _, fun _ => ⟨rfl, rfl⟩, Below.refl _ _⟩
 case round =>
  obtain ⟨j, ro, c, hj, rfl, rfl, hR, hnil, hb⟩ := hrel
  have HNil : Hid (j = 0 → ro = none ∧ c = 0) := hnil
  clear hnil
  have HR1 : Hid (KN wr W0.heap.size (.slice ro j c) j) := hR
  have HB : Hid _ := hb
  clear hR hb
  by_cases hlt : j < N
  ·go_wp2_with (at_builtin; refine wpList_append_own_at _ rfl _ _ 150 rfl W0.heap.size 3 i0 (.int .i64 0) 1 8 Tryz.underlying150 hi hz0 hz1 hz2 rfl (by decide) (.slice ro j c) j ((List.range j).map (fun q : Nat => Value.int .i64 (q : Int))) rfl (k_new HR1.out (one_newK _ _)) ⟨wr.heap.size, 0, none⟩ 1 1 [.int .i64 j] rfl rfl (k_one1 (heap_alloc_new wr (.cells #[.int .i64 j] 3))) (k_oneI _) (by unfold maxLen; omega) (by omega) (by have := HB.out.size; simp; omega) ?_)
   intro v' w4 hown hgrow hne hat
   have hM4 : KN w4 W0.heap.size v' (j + 1) := by
    unfold KN
    rw [List.range_succ, List.map_append]
    exact hown
   have hB3 : Below W0.heap.size W0 (wr.alloc (.cells #[.int .i64 j] 3)) := HB.out.alloc HB.out.size _
   have hB4 : Below W0.heap.size W0 w4 := hB3.trans ((Fr.grown hgrow (S := fun k => W0.heap.size ≤ k) (fun k hk => (World.ownsRow.lt HR1.out k hk).1)).below hB3.size (fun k hk => hk))
   obtain ⟨ro', c', rfl⟩ := k_shape hM4
   have HM4 : Hid _ := hM4
   have HB4 : Hid _ := hB4
   clear hM4 hB3 hB4 hown hgrow hne hat
   go_wp2
   go_roundw
   case rel => exact ⟨j + 1, ro', c', by omega, rfl, by go_num, HM4.out, fun e => absurd e (by omega), HB4.out⟩
   case measure => simp [intOf]; omega
  ·obtain rfl : j = N := by omega
   by_cases h0 : 0 < j
   ·obtain ⟨g, rfl, hg, hP⟩ := KN.at_ HR1.out h0
    have HP : Hid (PlAt wr g j) := hP
    have HC : Hid (CmpAt wr (.pointer (some ⟨w.heap.size, 0, none⟩)) j (fun x y => cmpI ((ids s.G).getD x 0) ((ids s.G).getD y 0))) := by
     refine ⟨fun m x y hx hy => ?_, fun x y hxy hx => ?_⟩
     ·have hx' : x < s.G.length := by rw [← HN.out]; exact hx
      have hy' : y < s.G.length := by rw [← HN.out]; exact hy
      have hcw : (wr.drewN m).cell? ⟨w.heap.size, 0, none⟩ = some (.slice ao s.G.length cap) := by
       rw [World.cell?_drewN, ← HN.out]
       exact (HB.out.cell (p := ⟨w.heap.size, 0, none⟩) (by have := HS0.out; show w.heap.size < _; omega)).trans hc0
      have := by1_any (w := wr.drewN m) (lb := w.heap.size) hcw (VxAt.new (VxAt.new HV0.out HB.out) (below_drewN _ m)) (by rw [← HN.out]; exact hN) x y hx' hy'
      have e1 : (ids s.G).getD x 0 = s.G[x].id := by simp [ids, hx']
      have e2 : (ids s.G).getD y 0 = s.G[y].id := by simp [ids, hy']
      rw [e1, e2]
      exact this
     ·have hx' : x < (ids s.G).length := by rw [ids_len, ← HN.out]; exact hx
      have e1 : (ids s.G).getD x 0 = (ids s.G)[x] := by simp [hx']
      have e2 : (ids s.G).getD y 0 = (ids s.G)[y] := by simp [show y < (ids s.G).length by omega]
      rw [e1, e2]
      unfold cmpI
      by_cases e : y = x
      ·subst e; rw [if_neg (by omega), if_neg (by omega)]; omega
      ·have := Rise.lt HR.out x y hx' (by omega)
       rw [if_neg (by omega), if_pos this]; omega
    clear hP
    go_wp2_with (go_at_call 104; refine (sortStable_any HP.out HC.out hN).mono ?_; rintro r w5 ⟨rfl, q5, rfl⟩)
    go_ret
    exact ⟨_, rfl, k_low (k_new HR1.out (below_drewN _ q5)) HB0.out.size, HB0.out.trans ((HB.out.trans ((below_drewN _ q5).mono HB.out.size)).mono HB0.out.size)⟩
   ·obtain rfl : j = 0 := by omega
    obtain ⟨rfl, rfl⟩ := HNil.out rfl
    go_wp2_with (go_at_call 104; refine sortStable_nil.mono ?_; rintro r w5 ⟨rfl, q5, rfl⟩)
    go_ret
    exact ⟨_, rfl, k_low (k_new HR1.out (below_drewN _ q5)) HB0.out.size, HB0.out.trans ((HB.out.trans ((below_drewN _ q5).mono HB.out.size)).mono HB0.out.size)⟩
end
end
section
open Go.RowKit
section
variable {w : World} {S : Nat → Prop} {p n : Nat} {s : St} {sv : Value} {M : List (Vx × Value)} {hm bx : Nat} {SB : Nat → Prop}
theorem lay_any (h : PA w S p n s sv M hm bx SB) (hn : n < maxLen) {id : Int} (hid : I64 id) (c : Bool) :
  Calls Tryz.prog 111 #[.pointer (some ⟨p, 0, none⟩), .int .i64 id, .bool c] w fun r w' => r = .returned (.tuple #[]) ∧ PA w' S p (n + 1) ⟨s.G, fun y => if y = id then c else s.H y, s.B⟩ sv M hm bx SB ∧ Fr w w' (fun k => k = hm) := by
 obtain ⟨c0, c1, c2⟩ := h.cells
 obtain ⟨w2, hrun, hB, hF⟩ := h.hal.put hn hid c
 have HP : Hid _ := h.lay hB hF
 have HF : Hid _ := hF
 have hnil := map_nil Tryz.underlying120 w (some hm)
 clear h hB hF
 go_enter Tryz.func111, Tryz.ntmps111
 go_wp2
 go_end0
 exact ⟨rfl, HP.out, HF.out⟩
theorem PA.emptied (h : PA w S p n s sv M hm bx SB) : PA ((w.alloc (.cells #[.map none] 179)).setCell ⟨p, 2, none⟩ (.pointer (some ⟨w.heap.size, 0, none⟩))) (fun k => S k ∨ w.heap.size ≤ k) p n ⟨s.G, s.H, []⟩ sv M hm w.heap.size (fun k => k = w.heap.size) := by
 have hp := h.plt
 have hb0 : Below w.heap.size w (w.alloc (.cells #[.map none] 179)) := one_new _ _
 have h1 := h.new hb0
 have fs : Fr (w.alloc (.cells #[.map none] 179)) ((w.alloc (.cells #[.map none] 179)).setCell ⟨p, 2, none⟩ (.pointer (some ⟨w.heap.size, 0, none⟩))) (fun k => k = p) := Fr.setCell (S := fun k => k = p) _ ⟨p, 2, none⟩ _ rfl
 have hgb : ∀ k, GB sv M k → k < w.heap.size := fun k hk => (h.gw.gb hk).2
 refine { blk := ?_, gw := h1.gw.keepS fs (fun k hk => (h.gp k hk).1), gs := h.gs, hal := h1.hal.same (fs.block hm h1.hal.lt (fun e => h.ph e.symm)), box := ?_, lt := ?_, inP := .inl h.inP, inH := .inl h.inH, inB := ?_, inG := fun k hk => .inl (h.inG k hk), ph := h.ph, pb := ?_, hb := ?_, gp := ?_ }
 ·exact set_heap h1.blk 2 _
 ·exact ((BX.made w (S := fun k => k = w.heap.size) rfl).kept fs (fun k hk e => by omega)).more (Nat.zero_le _)
 ·intro k hk
  have := fs.size
  rw [World.size_alloc] at this
  omega
 ·intro k hk; exact .inr (by omega)
 ·intro e; omega
 ·intro e; have := h.hal.lt; omega
 ·intro k hk
  have := hgb k hk
  exact ⟨(h.gp k hk).1, (h.gp k hk).2.1, by omega⟩
theorem empty_any (h : PA w S p n s sv M hm bx SB) :
  Calls Tryz.prog 87 #[.pointer (some ⟨p, 0, none⟩)] w fun r w' => r = .returned (.tuple #[]) ∧ PA w' (fun k => S k ∨ w.heap.size ≤ k) p n ⟨s.G, s.H, []⟩ sv M hm w.heap.size (fun k => k = w.heap.size) ∧ Fr w w' (fun k => k = p) := by
 have hp := h.plt
 obtain ⟨W0, hW0⟩ : ∃ W0, w.alloc (.cells #[.map none] 179) = W0 := ⟨_, rfl⟩
 have HP : Hid _ := h.emptied
 have HF : Hid (Fr w ((w.alloc (.cells #[.map none] 179)).setCell ⟨p, 2, none⟩ (.pointer (some ⟨w.heap.size, 0, none⟩))) (fun k => k = p)) := (Fr.alloc w _ _).trans (Fr.setCell (S := fun k => k = p) _ ⟨p, 2, none⟩ _ rfl) (fun _ _ h => h)
 have h1 := h.new (one_new w (.cells #[.map none] 179))
 rw [hW0] at HP HF h1
 obtain ⟨c0, c1, c2⟩ := h1.cells
 have hfz : W0.frozen? ⟨p, 2, none⟩ = false := by
  have := h1.blk
  simp [World.frozen?, this]
 have HW0 : Hid _ := hW0
 clear h h1 hW0
 go_enter Tryz.func87, Tryz.ntmps87
 go_wp2_with (go_at_call 81; refine (new_box _).mono ?_; rintro r w1 ⟨rfl, hw1⟩; rw [HW0.out] at hw1; subst hw1)
 go_end0
 exact ⟨rfl, HP.out, HF.out⟩
end
end
section
open Go.RowKit
def hv (n : Int) : Int := if -9223372036854775808 ≤ n ∧ n ≤ 9223372036854775807 then n else 0
def he (n : Int) : Int := if -9223372036854775808 ≤ n ∧ n ≤ 9223372036854775807 then 0 else 20
theorem hv_in {n : Int} (h : -9223372036854775808 ≤ n ∧ n ≤ 9223372036854775807) : hv n = n := if_pos h
theorem he_in {n : Int} (h : -9223372036854775808 ≤ n ∧ n ≤ 9223372036854775807) : he n = 0 := if_pos h
theorem hv_out {n : Int} (h : ¬ (-9223372036854775808 ≤ n ∧ n ≤ 9223372036854775807)) : hv n = 0 := if_neg h
theorem he_out {n : Int} (h : ¬ (-9223372036854775808 ≤ n ∧ n ≤ 9223372036854775807)) : he n = 20 := if_neg h
theorem hv_bd (n : Int) : -9223372036854775808 ≤ hv n ∧ hv n ≤ 9223372036854775807 := by
 unfold hv; split <;> omega
theorem he_cases (n : Int) : he n = 0 ∧ hv n = n ∧ (-9223372036854775808 ≤ n ∧ n ≤ 9223372036854775807) ∨ he n = 20 ∧ hv n = 0 ∧ ¬ (-9223372036854775808 ≤ n ∧ n ≤ 9223372036854775807) := by
 by_cases h : -9223372036854775808 ≤ n ∧ n ≤ 9223372036854775807
 ·exact .inl ⟨he_in h, hv_in h, h⟩
 ·exact .inr ⟨he_out h, hv_out h, h⟩
def ans (n : Int) : Ending := .returned (.tuple #[.int .i64 (hv n), .int .i64 (he n)])
theorem ans_in {n : Int} (h : -9223372036854775808 ≤ n ∧ n ≤ 9223372036854775807) : Ending.returned (.tuple #[.int .i64 n, .int .i64 0]) = ans n := by
 unfold ans; rw [hv_in h, he_in h]
theorem ans_out {n : Int} (h : ¬ (-9223372036854775808 ≤ n ∧ n ≤ 9223372036854775807)) : Ending.returned (.tuple #[.int .i64 0, .int .i64 20]) = ans n := by
 unfold ans; rw [hv_out h, he_out h]
end
section
open Go.RowKit
theorem add_any (a b : Int) (w : World) (ha : -9223372036854775808 ≤ a) (ha' : a ≤ 9223372036854775807) (hb : -9223372036854775808 ≤ b) (hb' : b ≤ 9223372036854775807) :
  Calls Tryz.prog 147 #[.int .i64 a, .int .i64 b] w fun e w' => e = ans (a + b) ∧ w' = w := by
 by_cases h : -9223372036854775808 ≤ a + b ∧ a + b ≤ 9223372036854775807
 ·have hA := ans_in h
  go_enter Tryz.func147, Tryz.ntmps147
  go_wp2
  all_goals first | (exfalso; omega) | (go_ret2; exact ⟨hA, rfl⟩)
 ·have hA := ans_out h
  go_enter Tryz.func147, Tryz.ntmps147
  go_wp2
  all_goals first | (exfalso; omega) | (go_ret2; exact ⟨hA, rfl⟩)
end
section
open Go.RowKit
theorem jnE_false {k a b : Int} (h : jnE k a b = false) (ha : I64 a) (hb : I64 b) : I64 (jn k a b) := by
 unfold jnE at h
 unfold jn
 unfold I64 at *
 simp only [decide_eq_false_iff_not] at h
 split
 ·split <;> omega
 ·split
  ·split <;> omega
  ·omega
def jV (k a b : Int) : Int := if jnE k a b then 0 else jn k a b
def jEr (k a b : Int) : Int := if jnE k a b then 20 else 0
set_option maxHeartbeats 400000 in
theorem join_any {k a b : Int} {w : World} (ha : I64 a) (hb : I64 b) : Calls Tryz.prog 126 #[.int .i64 k, .int .i64 a, .int .i64 b] w fun e w' => e = .returned (.tuple #[.int .i64 (jV k a b), .int .i64 (jEr k a b)]) ∧ w' = w := by
 by_cases h2 : k = 2
 ·subst h2
  have e1 : jnE 2 a b = false := by simp [jnE]
  have e3 : jEr 2 a b = 0 := by simp [jEr, e1]
  have e2 : jV 2 a b = min a b := by
   simp only [jV, jn, e1, if_true, Bool.false_eq_true, if_false]
   split <;> omega
  rw [e2, e3]
  go_enter Tryz.func126, Tryz.ntmps126
  go_wp2
  go_ret2
  exact ⟨rfl, rfl⟩
 ·by_cases h3 : k = 3
  ·subst h3
   have e1 : jnE 3 a b = false := by simp [jnE]
   have e3 : jEr 3 a b = 0 := by simp [jEr, e1]
   have e2 : jV 3 a b = max a b := by
    simp only [jV, jn, e1, if_true, Bool.false_eq_true, if_false, show ((3 : Int) = 2) = False by simp]
    split <;> omega
   rw [e2, e3]
   go_enter Tryz.func126, Tryz.ntmps126
   go_wp2
   go_ret2
   exact ⟨rfl, rfl⟩
  ·have b2 : (k == 2) = false := by simpa using h2
   have b3 : (k == 3) = false := by simpa using h3
   have e2 : jV k a b = hv (a + b) := by
    simp only [jV, jnE, jn, hv, h2, h3, ne_eq, not_false_eq_true, true_and, if_false]
    by_cases h : -9223372036854775808 ≤ a + b ∧ a + b ≤ 9223372036854775807 <;> simp [h]
   have e3 : jEr k a b = he (a + b) := by
    simp only [jEr, jnE, he, h2, h3, ne_eq, not_false_eq_true, true_and]
    by_cases h : -9223372036854775808 ≤ a + b ∧ a + b ≤ 9223372036854775807 <;> simp [h]
   rw [e2, e3]
   have HA : Hid _ := ha
   have HB : Hid _ := hb
   clear e2 e3 ha hb
   go_enter Tryz.func126, Tryz.ntmps126
   go_wp2_with (go_at_call 147; refine (add_any a b _ HA.out.1 HA.out.2 HB.out.1 HB.out.2).mono ?_; rintro e w1 ⟨rfl, rfl⟩; simp only [ans])
   go_ret2
   exact ⟨rfl, rfl⟩
def combO (k : Int) : List Msg → Option (List Msg)
 | [] => some []
 | m :: l => if k = 0 then some (m :: l) else (foldM k m.v l).map fun v => [⟨m.f, m.t, m.a, v⟩]
def CombR (w' : World) (r : Ending) : Option (List Msg) → Prop
 | none => r = .returned (.tuple #[.slice none 0 0, .int .i64 20])
 | some R => ∃ ao c, r = .returned (.tuple #[.slice ao R.length c, .int .i64 0]) ∧ MsAt w' (fun _ => True) ao R
def CombN (B : Nat) (w' : World) (r : Ending) : Option (List Msg) → Prop
 | none => r = .returned (.tuple #[.slice none 0 0, .int .i64 20])
 | some R => ∃ ao c, r = .returned (.tuple #[.slice ao R.length c, .int .i64 0]) ∧ MsAt w' (fun k => B ≤ k) ao R
def CombB (B : Nat) (w' : World) (r : Ending) : Option (List Msg) → Prop
 | none => r = .returned (.tuple #[.slice none 0 0, .int .i64 20])
 | some R => ∃ a c, r = .returned (.tuple #[.slice (some a) R.length c, .int .i64 0]) ∧ MsAt w' (fun k => B ≤ k) (some a) R
theorem CombB.toN {B : Nat} {w' : World} {r : Ending} : ∀ {o : Option (List Msg)}, CombB B w' r o → CombN B w' r o
 | none, h => h
 | some R, h => by
  obtain ⟨a, c, h1, h2⟩ := h
  exact ⟨some a, c, h1, h2⟩
theorem CombN.toR {B : Nat} {w' : World} {r : Ending} : ∀ {o : Option (List Msg)}, CombN B w' r o → CombR w' r o
 | none, h => h
 | some R, h => by
  obtain ⟨a, c, h1, h2⟩ := h
  exact ⟨a, c, h1, h2.mono (fun _ _ _ => trivial)⟩
theorem foldM_step {k x y : Int} {l : List Msg} {j : Nat} (hj : j < l.length) (h : foldM k x (l.take j) = some y) : (jnE k y l[j].v = false → foldM k x (l.take (j + 1)) = some (jn k y l[j].v)) ∧ (jnE k y l[j].v = true → foldM k x l = none) := by
 have e1 : foldM k x (l.take (j + 1)) = if jnE k y l[j].v then none else some (jn k y l[j].v) := by
  rw [List.take_succ_eq_append_getElem hj, foldM_app, h]
  simp only [Option.bind_some, foldM]
 refine ⟨fun hf => by rw [e1, hf]; rfl, fun hf => ?_⟩
 have e2 : l = l.take (j + 1) ++ l.drop (j + 1) := (List.take_append_drop _ _).symm
 rw [e2, foldM_app, e1, hf]
 rfl
theorem one_atB {W : World} {g B : Nat} {t : TypeId} {m : Msg} (hB : B ≤ g) (h : W.heap[g]? = some (.cells #[.int .i64 m.f, .int .i64 m.t, .int .i64 m.a, .int .i64 m.v] t (0, 0))) : MsAt W (fun k => B ≤ k) (some ⟨g, 0, none⟩) [m] := by
 intro _
 refine ⟨g, 0, rfl, hB, fun j hj => ?_⟩
 have : j = 0 := by simp at hj; omega
 subst this
 simpa using m_cells h
theorem MsAt.all {w : World} {P : Nat → Prop} {ao : Option Addr} {L : List Msg} (h : MsAt w P ao L) : MsAt w (fun _ => True) ao L := h.mono (fun _ _ _ => trivial)
theorem set4_3 {w : World} {b : Nat} {t : TypeId} {u0 u1 u2 u3 : Value} (h : w.heap[b]? = some (.cells #[u0, u1, u2, u3] t (0, 0))) (u : Value) : (w.setCell ⟨b, 3, none⟩ u).heap[b]? = some (.cells #[u0, u1, u2, u] t (0, 0)) := by
 have hlt := m_lt h
 have h' : w.heap[b] = .cells #[u0, u1, u2, u3] t (0, 0) := by simpa [Array.getElem?_eq_getElem hlt] using h
 show (w.heap.modify b _)[b]? = _
 rw [Array.getElem?_eq_getElem (by simpa using hlt), Array.getElem_modify_self, h']
 rfl
theorem m_froz {W : World} {b o : Nat} {t : TypeId} {cs : Array Value} (h : W.heap[b]? = some (.cells cs t (0, 0))) : W.frozen? ⟨b, o, none⟩ = false := by simp [World.frozen?, h]
set_option maxHeartbeats 1000000 in
theorem comb_one {w : World} {P : Nat → Prop} {b off cap : Nat} {k : Int} (hk : k ≠ 0) (m : Msg) (h : MsAt w P (some ⟨b, off, none⟩) [m]) :
  Calls Tryz.prog 107 #[.int .i64 k, .slice (some ⟨b, off, none⟩) 1 cap] w fun r w' => CombB w.heap.size w' r (combO k [m]) ∧ Below w.heap.size w w' := by
 have bk : (k == 0) = false := by simpa using hk
 obtain ⟨b', off', e, hP, hc⟩ := h (by simp)
 cases e
 obtain ⟨e0, e1, e2, e3⟩ := hc 0 (by simp)
 simp only [Nat.zero_mul, Nat.add_zero, List.getElem_cons_zero] at e0 e1 e2 e3
 have e : combO k [m] = some [m] := by simp [combO, hk, foldM]
 rw [e]
 clear hc h e
 go_enter Tryz.func107, Tryz.ntmps107
 go_wp2
 all_goals
  refine wp_loop_rounds 1 ?_
  rw [rounds_succ]
  go_wp2
  go_ret2
  refine ⟨⟨_, _, rfl, ?_⟩, ((Below.refl _ w).alloc (Nat.le_refl _) _).alloc (by simp) _⟩
  exact one_atB (by simp) (by have := heap_alloc_new (w.alloc (.cells #[.int .i64 m.f, .int .i64 m.t, .int .i64 m.a, .int .i64 m.v] 201)) (.cells #[.int .i64 m.f, .int .i64 m.t, .int .i64 m.a, .int .i64 m.v] 201); rw [World.size_alloc] at this; exact this)
set_option maxHeartbeats 1000000 in
theorem comb_fold {w : World} {P : Nat → Prop} {b off cap : Nat} {k : Int} (hk : k ≠ 0) (m : Msg) (l : List Msg) (h : MsAt w P (some ⟨b, off, none⟩) (m :: l)) (hok : ∀ x ∈ m :: l, x.ok) (hl : (m :: l).length ≤ 8796093022208) (hne : 0 < l.length) (hcap : (m :: l).length ≤ cap) :
  Calls Tryz.prog 107 #[.int .i64 k, .slice (some ⟨b, off, none⟩) (m :: l).length cap] w fun r w' => CombB w.heap.size w' r (combO k (m :: l)) ∧ Below w.heap.size w w' := by
 have bk : (k == 0) = false := by simpa using hk
 obtain ⟨b', off', e, hP, hc⟩ := h (by simp)
 cases e
 obtain ⟨e0, e1, e2, e3⟩ := hc 0 (by simp)
 simp only [Nat.zero_mul, Nat.add_zero, List.getElem_cons_zero] at e0 e1 e2 e3
 have okm := hok m (by simp)
 have HC : Hid (∀ j (h : j < l.length), w.cell? ⟨b, off + (j + 1) * 4, none⟩ = some (.int .i64 l[j].f) ∧ w.cell? ⟨b, off + (j + 1) * 4 + 1, none⟩ = some (.int .i64 l[j].t) ∧ w.cell? ⟨b, off + (j + 1) * 4 + 2, none⟩ = some (.int .i64 l[j].a) ∧ w.cell? ⟨b, off + (j + 1) * 4 + 3, none⟩ = some (.int .i64 l[j].v)) := fun j hj => hc (j + 1) (by simpa using hj)
 have HO : Hid (∀ x ∈ l, x.ok) := fun x hx => hok x (by simp [hx])
 have hlen : (m :: l).length = l.length + 1 := rfl
 have hblt := lt_cell e0
 rw [hlen] at hl hcap ⊢
 have hc1 : ¬ cap = 1 := by omega
 clear hc h hok hlen
 go_enter Tryz.func107, Tryz.ntmps107
 go_upto_region 5 with (fail)
 have h1 := heap_alloc_new w (.cells #[.int .i64 m.f, .int .i64 m.t, .int .i64 m.a, .int .i64 m.v] 201)
 have h2 : Below w.heap.size w (w.alloc (.cells #[.int .i64 m.f, .int .i64 m.t, .int .i64 m.a, .int .i64 m.v] 201)) := (Below.refl _ w).alloc (Nat.le_refl _) _
 go_loopw [4, 5, 8, 9, 10, 26, 41] (fun _ _ _ _ _ i _ wr => ∃ (j : Nat) (x : Int), j ≤ l.length ∧ i = .int .i64 j ∧ Hid (foldM k m.v (l.take j) = some x) ∧ I64 x ∧ wr.heap[w.heap.size]? = some (.cells #[.int .i64 m.f, .int .i64 m.t, .int .i64 m.a, .int .i64 x] 201 (0, 0)) ∧ Below w.heap.size w wr) (fun _ _ _ _ _ i _ _ => l.length - (intOf i).toNat)
 case atStart => exact ⟨0, m.v, Nat.zero_le _, rfl, rfl, okm.v, h1, h2⟩
 case round =>
  obtain ⟨j, x, hj, rfl, hf, hx, hq, hb⟩ := hrel
  clear h1 h2
  by_cases hlt : j < l.length
  ·obtain ⟨f0, f1, f2, f3⟩ := HC.out j hlt
   have d0 := (hb.cell (p := ⟨b, off + (j + 1) * 4, none⟩) hblt).trans f0
   have d1 := (hb.cell (p := ⟨b, off + (j + 1) * 4 + 1, none⟩) hblt).trans f1
   have d2 := (hb.cell (p := ⟨b, off + (j + 1) * 4 + 2, none⟩) hblt).trans f2
   have d3 := (hb.cell (p := ⟨b, off + (j + 1) * 4 + 3, none⟩) hblt).trans f3
   rw [show off + (j + 1) * 4 = off + 4 + j * 4 by omega] at d0 d1 d2 d3
   have oky := HO.out _ (List.getElem_mem hlt)
   have HS : Hid _ := foldM_step hlt hf.out
   generalize l[j] = y at d0 d1 d2 d3 oky HS
   have HQ : Hid _ := hq
   have HB : Hid _ := hb
   have hqlt := m_lt hq
   have hq1 := fun o => (Below.heap_alloc wr o w.heap.size hqlt).trans hq
   obtain ⟨_, _, _, k3⟩ := m_cells (hq1 (.cells #[.int .i64 y.f, .int .i64 y.t, .int .i64 y.a, .int .i64 y.v] 201))
   have k4 := m_froz (o := 3) (hq1 (.cells #[.int .i64 y.f, .int .i64 y.t, .int .i64 y.a, .int .i64 y.v] 201))
   clear hq hb hq1 f0 f1 f2 f3 e0 e1 e2 e3 hf
   cases hE : jnE k x y.v
   ·have HN : Hid (foldM k m.v (l.take (j + 1)) = some (jn k x y.v)) := HS.out.1 hE
    have hI := jnE_false hE hx oky.v
    have eV : jV k x y.v = jn k x y.v := by simp [jV, hE]
    have eE : jEr k x y.v = 0 := by simp [jEr, hE]
    generalize jn k x y.v = z at HN hI eV
    have HJ : Hid (Calls Tryz.prog 126 #[.int .i64 k, .int .i64 x, .int .i64 y.v] (wr.alloc (.cells #[.int .i64 y.f, .int .i64 y.t, .int .i64 y.a, .int .i64 y.v] 201)) fun e w' => e = .returned (.tuple #[.int .i64 z, .int .i64 0]) ∧ w' = (wr.alloc (.cells #[.int .i64 y.f, .int .i64 y.t, .int .i64 y.a, .int .i64 y.v] 201))) := by
     have := join_any (k := k) (w := (wr.alloc (.cells #[.int .i64 y.f, .int .i64 y.t, .int .i64 y.a, .int .i64 y.v] 201))) hx oky.v
     rw [eV, eE] at this
     exact this
    clear eV eE hE HS hx
    go_wp2_with (go_at_call 126; refine HJ.out.mono ?_; rintro e w1 ⟨rfl, rfl⟩)
    go_roundw
    case rel =>
     repeat apply Exists.intro
     refine ⟨⟨j + 1, z, by omega, by go_num, HN.out, hI, (Below.heap_alloc (wr.setCell ⟨w.heap.size, 3, none⟩ (.int .i64 z)) _ w.heap.size (m_lt (set4_3 HQ.out _))).trans (set4_3 HQ.out _), ?_⟩, rfl⟩
     have hz := HB.out.trans ((Fr.setCell (S := fun k => k = w.heap.size) wr ⟨w.heap.size, 3, none⟩ (.int .i64 z) rfl).below HB.out.size (fun k hk => by omega))
     exact hz.alloc hz.size _
    case measure => simp [intOf]; omega
   ·have HN : Hid (combO k (m :: l) = none) := by
     show combO k (m :: l) = none
     simp [combO, hk, HS.out.2 hE]
    have eV : jV k x y.v = 0 := by simp [jV, hE]
    have eE : jEr k x y.v = 20 := by simp [jEr, hE]
    have HJ : Hid (Calls Tryz.prog 126 #[.int .i64 k, .int .i64 x, .int .i64 y.v] (wr.alloc (.cells #[.int .i64 y.f, .int .i64 y.t, .int .i64 y.a, .int .i64 y.v] 201)) fun e w' => e = .returned (.tuple #[.int .i64 0, .int .i64 20]) ∧ w' = (wr.alloc (.cells #[.int .i64 y.f, .int .i64 y.t, .int .i64 y.a, .int .i64 y.v] 201))) := by
     have := join_any (k := k) (w := (wr.alloc (.cells #[.int .i64 y.f, .int .i64 y.t, .int .i64 y.a, .int .i64 y.v] 201))) hx oky.v
     rw [eV, eE] at this
     exact this
    clear eV eE hE HS hx
    go_wp2_with (go_at_call 126; refine HJ.out.mono ?_; rintro e w1 ⟨rfl, rfl⟩)
    go_ret2
    exact ⟨by rw [HN.out]; rfl, HB.out.alloc HB.out.size _⟩
  ·obtain rfl : j = l.length := by omega
   rw [List.take_length] at hf
   have HN : Hid (combO k (m :: l) = some [⟨m.f, m.t, m.a, x⟩]) := by
    show combO k (m :: l) = _
    simp [combO, hk, hf.out]
   obtain ⟨k0, k1, k2, k3⟩ := m_cells hq
   have HB : Hid _ := hb
   clear hf hb hq
   go_wp2
   go_ret2
   rw [HN.out]
   exact ⟨⟨_, _, rfl, one_atB HB.out.size (heap_alloc_new wr _)⟩, HB.out.alloc HB.out.size _⟩
theorem comb_same {w : World} {P : Nat → Prop} {b off cap : Nat} (k : Int) (L : List Msg) (h : MsAt w P (some ⟨b, off, none⟩) L) (hl : L.length * 32 ≤ 140737488355328) (hk : k = 0 ∨ L = []) :
  Calls Tryz.prog 107 #[.int .i64 k, .slice (some ⟨b, off, none⟩) L.length cap] w fun r w' => CombB w.heap.size w' r (some L) ∧ Below w.heap.size w w' := by
 have HC : Hid _ := h
 have hk' : ((k == 0) = true) ∨ L = [] := by
  rcases hk with rfl | h
  ·exact Or.inl rfl
  ·exact Or.inr h
 clear h hk
 rcases hk' with hb | rfl
 ·go_enter Tryz.func107, Tryz.ntmps107
  go_wp2_with (go_at_call 125; refine (cloneM_any _ cap HC.out hl).mono ?_; rintro e w1 ⟨g, c, rfl, hg, ho, hb⟩; have HO : Hid _ := ho; have HB : Hid _ := hb; have HG : Hid (w.heap.size ≤ g) := hg; clear ho hb hg)
  go_ret2
  exact ⟨⟨_, _, rfl, (Mo.at_ HO.out).mono (fun k _ e => by cases e; exact HG.out)⟩, HB.out⟩
 ·cases hk0 : (k == 0)
  ·go_enter Tryz.func107, Tryz.ntmps107
   go_wp2_with (go_at_call 125; refine (cloneM_any _ cap HC.out hl).mono ?_; rintro e w1 ⟨g, c, rfl, hg, ho, hb⟩; have HO : Hid _ := ho; have HB : Hid _ := hb; have HG : Hid (w.heap.size ≤ g) := hg; clear ho hb hg)
   go_ret2
   exact ⟨⟨_, _, rfl, (Mo.at_ HO.out).mono (fun k _ e => by cases e; exact HG.out)⟩, HB.out⟩
  ·go_enter Tryz.func107, Tryz.ntmps107
   go_wp2_with (go_at_call 125; refine (cloneM_any _ cap HC.out hl).mono ?_; rintro e w1 ⟨g, c, rfl, hg, ho, hb⟩; have HO : Hid _ := ho; have HB : Hid _ := hb; have HG : Hid (w.heap.size ≤ g) := hg; clear ho hb hg)
   go_ret2
   exact ⟨⟨_, _, rfl, (Mo.at_ HO.out).mono (fun k _ e => by cases e; exact HG.out)⟩, HB.out⟩
theorem comb_nil {w : World} (k : Int) : Calls Tryz.prog 107 #[.int .i64 k, .slice none 0 0] w fun r w' => CombN w.heap.size w' r (some []) ∧ Below w.heap.size w w' := by
 cases hk0 : (k == 0)
 ·go_enter Tryz.func107, Tryz.ntmps107
  go_wp2_with (go_at_call 125; refine (cloneM_nil _).mono ?_; rintro e w1 ⟨rfl, rfl⟩)
  go_ret2
  exact ⟨⟨_, _, rfl, fun h => absurd h (by simp)⟩, Below.refl _ _⟩
 ·go_enter Tryz.func107, Tryz.ntmps107
  go_wp2_with (go_at_call 125; refine (cloneM_nil _).mono ?_; rintro e w1 ⟨rfl, rfl⟩)
  go_ret2
  exact ⟨⟨_, _, rfl, fun h => absurd h (by simp)⟩, Below.refl _ _⟩
theorem clone_empty {w : World} (a : Addr) (c : Nat) : Calls Tryz.prog 125 #[.slice (some a) 0 c] w fun e w' => ∃ g cap, e = .returned (.slice (some ⟨g, 0, none⟩) 0 cap) ∧ Below w.heap.size w w' := by
 obtain ⟨i0, hi, hz0, hz1, hz2⟩ := info_parts infoMsg
 have q22 : ∀ (w : World) (a : Option Addr) (n c n' c' : Nat), (binOp .eql 116 (.slice a n c) (.slice none n' c')).run Tryz.prog w = .ok (.bool a.isNone) w := fun w a n c n' c' => Lib.run_eql_slice_nil w _ _ a n c n' c' Tryz.underlying116
 have u22 : ∀ w, Sem.run Tryz.prog (underlying 116) w = .ok (TypeDesc.slice 201) w := run_underlying Tryz.underlying116
 go_enter Tryz.func125, Tryz.ntmps125
 go_wp2_with (at_builtin; refine wpList_append_own_at _ rfl _ _ 116 rfl w.heap.size 201 i0 (.agg #[.int .i64 0, .int .i64 0, .int .i64 0, .int .i64 0]) 4 32 Tryz.underlying116 hi hz0 hz1 hz2 rfl (by decide) _ _ _ rfl (World.ownsRow_made w #[] 0 (Nat.le_refl _) (Nat.zero_le _) (by simp)) a 0 c [] rfl rfl (fun j u h => by simp at h) (fun u h => by simp at h) (by decide) (by decide) (by simp) ?_)
 intro v' w1 hown hgrow hnil _
 have hb : Below w.heap.size w w1 := ((Below.refl _ w).alloc (Nat.le_refl _) _).grown hgrow (by simp) (by intro k hk; simp [Value.ownBlock] at hk; omega)
 rcases hown.2 with ⟨h1, _⟩ | ⟨g, cap, cur, rfl, _⟩
 ·exact absurd h1 hnil
 ·have HB : Hid _ := hb
  clear hown hgrow hnil hb
  go_wp2
  go_ret
  exact ⟨g, cap, rfl, HB.out⟩
theorem comb_empty {w : World} (k : Int) (a : Addr) (c : Nat) : Calls Tryz.prog 107 #[.int .i64 k, .slice (some a) 0 c] w fun r w' => CombB w.heap.size w' r (some []) ∧ Below w.heap.size w w' := by
 cases hk0 : (k == 0)
 ·go_enter Tryz.func107, Tryz.ntmps107
  go_wp2_with (go_at_call 125; refine (clone_empty a c).mono ?_; rintro e w1 ⟨g, cap, rfl, hb⟩)
  go_ret2
  exact ⟨⟨_, _, rfl, fun h => absurd h (by simp)⟩, hb⟩
 ·go_enter Tryz.func107, Tryz.ntmps107
  go_wp2_with (go_at_call 125; refine (clone_empty a c).mono ?_; rintro e w1 ⟨g, cap, rfl, hb⟩)
  go_ret2
  exact ⟨⟨_, _, rfl, fun h => absurd h (by simp)⟩, hb⟩
theorem combine_some {w : World} {P : Nat → Prop} {a : Addr} (k : Int) (L : List Msg) (cap : Nat) (h : MsAt w P (some a) L) (hok : ∀ m ∈ L, m.ok) (hl : L.length * 32 ≤ 140737488355328) (hcap : L.length ≤ cap) :
  Calls Tryz.prog 107 #[.int .i64 k, .slice (some a) L.length cap] w fun r w' => CombB w.heap.size w' r (combO k L) ∧ Below w.heap.size w w' := by
 match L, h, hok, hl, hcap with
 | [], h, _, hl, _ => exact comb_empty k a cap
 | m :: l, h, hok, hl, hcap =>
  obtain ⟨b, off, e, _⟩ := h (by simp)
  cases e
  by_cases hk : k = 0
  ·have e : combO k (m :: l) = some (m :: l) := by simp [combO, hk]
   rw [e]
   exact comb_same k (m :: l) h hl (Or.inl hk)
  ·match l, h, hok, hl, hcap with
   | [], h, _, _, _ => exact comb_one hk m h
   | m' :: l, h, hok, hl, hcap => exact comb_fold hk m (m' :: l) h hok (by omega) (by simp) hcap
theorem combine_new {w : World} {P : Nat → Prop} {ao : Option Addr} (k : Int) (L : List Msg) (cap : Nat) (h : MsAt w P ao L) (hok : ∀ m ∈ L, m.ok) (hl : L.length * 32 ≤ 140737488355328) (hcap : L.length ≤ cap) (hn : ao = none → cap = 0) :
  Calls Tryz.prog 107 #[.int .i64 k, .slice ao L.length cap] w fun r w' => CombN w.heap.size w' r (combO k L) ∧ Below w.heap.size w w' := by
 cases ao with
 | none =>
  have hc0 := hn rfl
  subst hc0
  have e : L = [] := List.length_eq_zero_iff.1 (by omega)
  subst e
  exact comb_nil k
 | some a => exact (combine_some k L cap h hok hl hcap).mono fun _ _ h => ⟨h.1.toN, h.2⟩
theorem combine_any {w : World} {P : Nat → Prop} {ao : Option Addr} (k : Int) (L : List Msg) (cap : Nat) (h : MsAt w P ao L) (hok : ∀ m ∈ L, m.ok) (hl : L.length * 32 ≤ 140737488355328) (hcap : L.length ≤ cap) (hn : ao = none → cap = 0) :
  Calls Tryz.prog 107 #[.int .i64 k, .slice ao L.length cap] w fun r w' => CombR w' r (combO k L) ∧ Below w.heap.size w w' :=
 (combine_new k L cap h hok hl hcap hn).mono fun _ _ h => ⟨h.1.toR, h.2⟩
end
end Go.Proofs.YtmgjlamglhpnaaaGreat
