/- All of a nil box. -/
import Derived.Test.YtfajkfngjfhkoabCbNilIt
import Derived.Test.YtfajkfngjfhkoabCbScope
import Derived.Test.YtfajkfngjfhkoabCbLaw1
namespace Go.Proofs.Ytfajkfngjfhkoab
open Go.RowKit Go.Shelf Go.Maps
attribute [local go_sem] Oper.semAt_some
theorem inord_fn {w : World} (mv : Value) (hmv : ∃ o, mv = .map o) : Calls Try.prog 35 #[mv] w fun r w' => r = .returned (.func (.func 46) #[] #[.pointer (some ⟨w.heap.size, 0, none⟩)]) ∧ w' = w.alloc (.cells #[mv] 67) := by
  have hmf : ∀ (fn : Fn) (first cap : Array Value) (w : World), (Instr.makeFunc fn first cap).run Try.prog w = .ok (.func fn first cap) w := fun _ _ _ _ => rfl
  obtain ⟨o, rfl⟩ := hmv
  go_enter Try.func35, Try.ntmps35
  go_wp2
  go_ret
  exact ⟨rfl, rfl⟩
theorem mclone_nil (w : World) : Calls Try.prog 32 #[.map none] w fun e w' => e = .returned (.map none) ∧ w' = w := AnyW.maps_Clone_nil layMClone w
theorem all_nil_fn (w : World) : Calls Try.prog 18 #[.pointer none] w fun r w' => r = .returned (.func (.func 34) #[] #[.pointer (some ⟨w.heap.size, 0, none⟩)]) ∧ w' = w.alloc (.cells #[.map none] 67) := by
  have hmf : ∀ (fn : Fn) (first cap : Array Value) (w : World), (Instr.makeFunc fn first cap).run Try.prog w = .ok (.func fn first cap) w := fun _ _ _ _ => rfl
  go_enter Try.func18, Try.ntmps18
  go_wp2_with (first
    | (go_at_call 33; refine (held_nil _).mono ?_; rintro e w1 ⟨rfl, rfl⟩)
    | (go_at_call 32; refine (mclone_nil _).mono ?_; rintro e w1 ⟨rfl, rfl⟩))
  go_ret
  exact ⟨rfl, rfl⟩
theorem inord_stops_nil (Bs : Nat) (w : World) (hB : Bs < w.heap.size) (hm : w.cell? ⟨Bs, 0, none⟩ = some (.map none)) :
    SeqStopsK Fence.wide 7 Try.prog 46 #[.pointer (some ⟨Bs, 0, none⟩)] (fun x : Empty => x.elim) (fun _ _ => True) (fun xs => xs = []) (fun _ => False) 0 w := fun l J _ W hW hJ _ _ h0 =>
  (inord_nil l Bs W ((hW.cell (p := ⟨Bs, 0, none⟩) hB).trans hm)).mono fun _ W' ⟨he, hb⟩ => ⟨he, .inl ⟨[], rfl, hJ [] W W' none h0 (grown_below hb) (fun r e => by cases e)⟩⟩
set_option maxRecDepth 100000 in
set_option maxHeartbeats 1000000 in
theorem all1_nil (l Bs : Nat) (W : World) (hm : W.cell? ⟨Bs, 0, none⟩ = some (.map none)) :
    CallsIn Fence.wide 8 Try.prog 34 #[.func (.yield l) #[] #[], .pointer (some ⟨Bs, 0, none⟩)] W fun e W' => (∃ v, e = .returned v) ∧ Below W.heap.size W W' := by
  have hBs := World.block_lt_of_cell? W ⟨Bs, 0, none⟩ hm
  have hm1 : (W.alloc (.cells #[.func (.yield l) #[] #[]] 70)).cell? ⟨Bs, 0, none⟩ = some (.map none) := fr_cell (Fr.alloc W _ (fun _ => False)) (fun h => h) hm
  refine callsIn_of_wp_marks Try.func34 rfl trivial ?_ rfl
  simp only [Try.ntmps34, List.size_toArray, List.length_cons, List.length_nil, Nat.reduceAdd, Nat.reduceSub, Array.replicate_succ, Array.replicate_zero, List.push_toArray, List.append_toArray, List.nil_append, List.cons_append]
  gi_wp2
  refine wpIn_scope ?_
  refine wpIn_seq ?_
  refine wpIn_label ?_
  simp only [Exit.then]
  gi_wp2_with (refine ⟨trivial, ?_⟩; gi_at_call 35; refine (callsIn_wide.2 (inord_fn _ ⟨_, rfl⟩)).mono ?_; rintro r w1 ⟨rfl, rfl⟩)
  have hm0 : ((W.alloc (.cells #[.func (.yield l) #[] #[]] 70)).alloc (.cells #[.map none] 67)).cell? ⟨W.heap.size + 1, 0, none⟩ = some (.map none) := by
    have := heap_alloc_new (W.alloc (.cells #[.func (.yield l) #[] #[]] 70)) (.cells #[.map none] 67)
    rw [World.size_alloc] at this
    exact (bx_one this).1
  have hB0 : Below W.heap.size W ((W.alloc (.cells #[.func (.yield l) #[] #[]] 70)).alloc (.cells #[.map none] 67)) := ((Below.refl _ W).alloc (Nat.le_refl _) _).alloc (by simp) _
  have hs0 : W.heap.size + 1 < ((W.alloc (.cells #[.func (.yield l) #[] #[]] 70)).alloc (.cells #[.map none] 67)).heap.size := by simp
  generalize (W.alloc (.cells #[.func (.yield l) #[] #[]] 70)).alloc (.cells #[.map none] 67) = W0 at hm0 hB0 hs0 ⊢
  refine wpIn_rangeFunc_ownF rfl (by decide) (gf := 46) (lb := #[.pointer (some ⟨W.heap.size + 1, 0, none⟩)]) rfl trivial (enters_of Try.func46 (by kernel_rfl) rfl) (inord_stops_nil (W.heap.size + 1) W0 hs0 hm0) (fun _ _ => trivial) (fun _ _ _ _ _ _ _ _ => trivial) (Below.refl _ _) (fun x => x.elim) (fun _ W' => Below W.heap.size W W') (fun _ _ _ => False) (ownFrom_below (Nat.le_refl _) (by omega)) (fun _ _ _ _ _ hs _ _ => hs.elim) hB0 (fun x => x.elim) (fun _ x => x.elim) (fun _ _ x => x.elim) ?done (fun _ _ _ _ _ h => h.elim)
  rintro D xs W' hD rfl hB hK
  refine ⟨by simp, .inl ⟨_, _, rfl, run_takeDeferred hK, ?_⟩⟩
  refine ⟨.tuple #[], ?_, ⟨_, rfl⟩, hB.trans (belowK_b (w := W) (Nat.le_refl _) W' D _ _ (by omega) hK rfl rfl)⟩
  simp [results, Try.results34, go_sem]
theorem all1_stops_nil (Bs : Nat) (w : World) (hB : Bs < w.heap.size) (hm : w.cell? ⟨Bs, 0, none⟩ = some (.map none)) :
    SeqStopsK Fence.wide 8 Try.prog 34 #[.pointer (some ⟨Bs, 0, none⟩)] (fun x : Empty => x.elim) (fun _ _ => True) (fun xs => xs = []) (fun _ => False) 0 w := fun l J _ W hW hJ _ _ h0 =>
  (all1_nil l Bs W ((hW.cell (p := ⟨Bs, 0, none⟩) hB).trans hm)).mono fun _ W' ⟨he, hb⟩ => ⟨he, .inl ⟨[], rfl, hJ [] W W' none h0 (grown_below hb) (fun r e => by cases e)⟩⟩
set_option maxRecDepth 100000 in
set_option maxHeartbeats 2000000 in
theorem law_nil (id : Int) (ao : Option Addr) (cap : Nat) (L : List Msg) (w : World) (hid : I64 id) :
    Calls Try.prog 4 #[.int .i64 id, .slice ao L.length cap] w fun e w' => e = .returned (.bool true) ∧ Below w.heap.size w w' := by
  refine (callsIn_wide (n := 9)).1 ?_
  refine callsIn_of_wp_marks Try.func4 rfl trivial ?_ rfl
  simp only [Try.ntmps4, List.size_toArray, List.length_cons, List.length_nil, Nat.reduceAdd, Nat.reduceSub, Array.replicate_succ, Array.replicate_zero, List.push_toArray, List.append_toArray, List.nil_append, List.cons_append]
  gi_wp2_with (refine ⟨trivial, ?_⟩; first
    | (gi_at_call 13; refine (callsIn_wide.2 (awake5 _)).mono ?_; rintro r w1 ⟨rfl, hb1⟩)
    | (gi_at_call 18; refine (callsIn_wide.2 (all_nil_fn _)).mono ?_; rintro r w2 ⟨rfl, rfl⟩))
  have hm0 : ((w1.alloc (.cells #[.int .i64 0] 3)).alloc (.cells #[.map none] 67)).cell? ⟨w1.heap.size + 1, 0, none⟩ = some (.map none) := by
    have := heap_alloc_new (w1.alloc (.cells #[.int .i64 0] 3)) (.cells #[.map none] 67)
    rw [World.size_alloc] at this
    exact (bx_one this).1
  have hn0 : ((w1.alloc (.cells #[.int .i64 0] 3)).alloc (.cells #[.map none] 67)).heap[w1.heap.size]? = some (.cells #[.int .i64 0] 3 (0, 0)) := (Below.heap_alloc _ _ _ (by simp)).trans (heap_alloc_new w1 _)
  have hB0 : Below w.heap.size w ((w1.alloc (.cells #[.int .i64 0] 3)).alloc (.cells #[.map none] 67)) := (hb1.alloc hb1.size _).alloc (by have := hb1.size; simp; omega) _
  have hs0 : w1.heap.size + 1 < ((w1.alloc (.cells #[.int .i64 0] 3)).alloc (.cells #[.map none] 67)).heap.size := by simp
  have hs1 := hb1.size
  generalize (w1.alloc (.cells #[.int .i64 0] 3)).alloc (.cells #[.map none] 67) = W0 at hm0 hB0 hs0 hn0 ⊢
  refine wpIn_rangeFunc_ownF rfl (by decide) (gf := 34) (lb := #[.pointer (some ⟨w1.heap.size + 1, 0, none⟩)]) rfl trivial (enters_of Try.func34 (by kernel_rfl) rfl) (all1_stops_nil (w1.heap.size + 1) W0 hs0 hm0) (fun _ _ => trivial) (fun _ _ _ _ _ _ _ _ => trivial) (Below.refl _ _) (fun x => x.elim)
    (fun _ W' => W'.heap[w1.heap.size]? = some (.cells #[.int .i64 0] 3 (0, 0)) ∧ Below w.heap.size w W') (fun _ _ _ => False)
    (OwnFrom.and (Own.from (fun s A B row hs hg hr => (hg.block _ (Array.getElem?_eq_some_iff.1 hs).1 (fun e' => by obtain ⟨o', ho', hc⟩ := hr _ e'.symm; rw [hs] at ho'; cases ho'; cases hc)).trans hs) _) (ownFrom_below (Nat.le_refl _) (by omega)))
    (fun _ _ _ _ _ hs _ _ => hs.elim) ⟨hn0, hB0⟩ (fun x => x.elim) (fun _ x => x.elim) (fun _ _ x => x.elim) ?done (fun _ _ _ _ _ h => h.elim)
  rintro D xs W' hD rfl ⟨hn, hB⟩ hK
  have hDlt := m_lt hK
  have HN : Hid _ := hn
  have HB : Hid _ := hB
  have HK : Hid _ := hK
  clear hn hB hK hn0 hm0 hB0
  gi_wp2_with (refine ⟨trivial, ?_⟩; first
    | (gi_at_call 13; refine (callsIn_wide.2 (awake5 _)).mono ?_; rintro r w3 ⟨rfl, hb3⟩; have HB3 : Hid _ := hb3; clear hb3)
    | (gi_at_call 19; refine (callsIn_wide.2 (put_nil _ _ _ _)).mono ?_; rintro r w4 ⟨rfl, rfl⟩)
    | (gi_at_call 20; refine (callsIn_wide.2 (len_nil _)).mono ?_; rintro r w5 ⟨rfl, hb5⟩; have hb6 := HB3.out.trans (hb5.mono HB3.out.size); have HB6 : Hid _ := hb6; have c6 := (bx_one ((hb6.block _ (m_lt HN.out)).trans HN.out)).1; clear hb5 hb6)
    | (gi_at_call 21; refine (callsIn_wide.2 (has_nil hid _)).mono ?_; rintro r w7 ⟨rfl, rfl⟩)
    | (gi_at_call 22; refine (callsIn_wide.2 (for_nil hid _)).mono ?_; rintro r w8 ⟨rfl, rfl⟩)
    | (gi_at_call 23; refine (callsIn_wide.2 (drop_nil hid _)).mono ?_; rintro r w9 ⟨rfl, rfl⟩))
  have hK' := (HB6.out.block D hDlt).trans HK.out
  have hB6 := HB.out.trans (HB6.out.mono HB.out.size)
  refine ⟨by simp, .inl ⟨_, _, rfl, run_takeDeferred hK', ?_⟩⟩
  refine ⟨.bool true, ?_, rfl, hB6.trans (belowK_b (w := w) (Nat.le_refl _) _ D _ _ (by omega) hK' rfl rfl)⟩
  simp [results, Try.results4, go_sem]
end Go.Proofs.Ytfajkfngjfhkoab
