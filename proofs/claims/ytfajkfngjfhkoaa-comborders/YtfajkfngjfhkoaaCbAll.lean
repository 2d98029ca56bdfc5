/- All: all messages, in order. -/
import Derived.Test.YtfajkfngjfhkoaaCbIt
import Derived.Test.YtfajkfngjfhkoaaCbScope
namespace Go.Proofs.Ytfajkfngjfhkoaa
open Go.RowKit Go.Shelf Go.Maps Go.Sort
attribute [local go_sem] Oper.semAt_some
theorem inord_none (Bs : Nat) (w : World) (O : Nat → Prop) (hBs : w.cell? ⟨Bs, 0, none⟩ = some (.map none)) :
    SeqT Try.prog 87 #[.pointer (some ⟨Bs, 0, none⟩)] encL PxL (fun ys => ys.map (·.1) = rowsM []) (fun pre => pre.map (·.1) <+: rowsM []) O w := by
  intro l J Jx T0 W hW hl1 hl2 hT0 hJ hJx hY h0
  refine (callsIn_wide.1 (inord_nil l Bs W ((hW.cell (p := ⟨Bs, 0, none⟩) (lt_cell hBs)).trans hBs))).mono ?_
  rintro e W' ⟨he, hb⟩
  exact ⟨he, .inl ⟨[], T0, by simp [rowsM, ksB, tsB], hJ _ _ _ _ h0 (Fr.ofBelow hb _)⟩⟩
theorem inord_T {w : World} {O : Nat → Prop} {N Bs : Nat} {B : List Msg} {mv : Value} (h : MH w O N B mv) (hO : ∀ k, O k → k < w.heap.size) (hOB : O Bs) (hBs : w.cell? ⟨Bs, 0, none⟩ = some mv) (hB : B.length * 32 ≤ 140737488355328) (hok : ∀ m ∈ B, m.ok) :
    SeqT Try.prog 87 #[.pointer (some ⟨Bs, 0, none⟩)] encL PxL (fun ys => ys.map (·.1) = rowsM B) (fun pre => pre.map (·.1) <+: rowsM B) O w := by
  rcases h with ⟨rfl, h⟩ | ⟨M, D, rfl, h⟩
  · subst h; exact inord_none Bs w O hBs
  · exact inord_some Bs M N D B w O hO hOB hBs h hB hok
theorem inordA_fn {w : World} (mv : Value) (hmv : ∃ o, mv = .map o) : Calls Try.prog 62 #[mv] w fun r w' => r = .returned (.func (.func 87) #[] #[.pointer (some ⟨w.heap.size, 0, none⟩)]) ∧ w' = w.alloc (.cells #[mv] 113) := by
  have hmf : ∀ (fn : Fn) (first cap : Array Value) (w : World), (Instr.makeFunc fn first cap).run Try.prog w = .ok (.func fn first cap) w := fun _ _ _ _ => rfl
  obtain ⟨o, rfl⟩ := hmv
  go_enter Try.func62, Try.ntmps62
  go_wp2
  go_ret
  exact ⟨rfl, rfl⟩
theorem MH.isMap {w : World} {O : Nat → Prop} {N : Nat} {B : List Msg} {mv : Value} (h : MH w O N B mv) : ∃ o, mv = .map o := by
  rcases h with ⟨rfl, h⟩ | ⟨M, D, rfl, h⟩
  · exact ⟨_, rfl⟩
  · exact ⟨_, rfl⟩
/-- A block that holds messages is no loop's record. -/
theorem MsAt.notLoop {W : World} {P : Nat → Prop} {ao : Option Addr} {L : List Msg} {l : Nat} {r : Loop} (h : MsAt W P ao L) (hr : W.heap[l]? = some (.loop r)) : MsAt W (fun k => P k ∧ k ≠ l) ao L := by
  intro hl
  obtain ⟨b, off, e, hb, hc⟩ := h hl
  refine ⟨b, off, e, ⟨hb, fun e' => ?_⟩, hc⟩
  subst e'
  have := (hc 0 hl).1
  simp [World.cell?, hr] at this
theorem RoundIn.deep {P : Program} {l l' m : Nat} {f : FuncId} {tmps : Array Value} {assign body : Code} {w : World} {R : Ending → World → Prop} (h : RoundIn Fence.wide m P l f tmps assign body w R) : RoundIn (Fence.wide.inRound l') m P l f tmps assign body w R := h
def encM (m : Msg) : Array Value := #[.agg #[.int .i64 m.f, .int .i64 m.t, .int .i64 m.a, .int .i64 m.v]]
def flatL (pre : List (List Msg × Option Addr × Nat)) : List Msg := (pre.map (·.1)).flatten
theorem flatL_snoc (pre : List (List Msg × Option Addr × Nat)) (x : List Msg × Option Addr × Nat) : flatL (pre ++ [x]) = flatL pre ++ x.1 := by simp [flatL]
theorem flatL_pre {pre : List (List Msg × Option Addr × Nat)} {B : List Msg} (h : pre.map (·.1) <+: rowsM B) : flatL pre <+: sortM B := by
  obtain ⟨t, ht⟩ := h
  rw [← rows_flat B, ← ht, List.flatten_append]
  exact List.prefix_append _ _
set_option maxRecDepth 100000 in
set_option maxHeartbeats 4000000 in
theorem all_T {w : World} {O : Nat → Prop} {N Bs : Nat} {B : List Msg} {mv : Value} (h : MH w O N B mv) (hO : ∀ k, O k → k < w.heap.size) (hBs : w.cell? ⟨Bs, 0, none⟩ = some mv) (hB : B.length * 32 ≤ 140737488355328) (hok : ∀ m ∈ B, m.ok) :
    SeqT Try.prog 61 #[.pointer (some ⟨Bs, 0, none⟩)] encM (fun _ _ _ => True) (fun ys => ys = sortM B) (fun pre => pre <+: sortM B) O w := by
  intro l J Jx T0 W hW hl1 hl2 hT0 hJ hJx hY h0
  have hM := h.kept (Fr.ofBelow hW (fun _ => False)) (fun _ _ h => h)
  have hBs' := (hW.cell (p := ⟨Bs, 0, none⟩) (lt_cell hBs)).trans hBs
  have hO' : ∀ k, O k → k < W.heap.size := fun k hk => Nat.lt_of_lt_of_le (hO k hk) hW.size
  have hmv := h.isMap
  clear h hBs hO
  have hb2 : Below W.heap.size W ((W.alloc (.cells #[.func (.yield l) #[] #[]] 119)).alloc (.cells #[mv] 113)) := ((Below.refl _ W).alloc (Nat.le_refl _) _).alloc (by simp) _
  have hy2 : ((W.alloc (.cells #[.func (.yield l) #[] #[]] 119)).alloc (.cells #[mv] 113)).heap[W.heap.size]? = some (.cells #[.func (.yield l) #[] #[]] 119 (0, 0)) := (Below.heap_alloc _ _ _ (by simp)).trans (heap_alloc_new _ _)
  have hm2 : ((W.alloc (.cells #[.func (.yield l) #[] #[]] 119)).alloc (.cells #[mv] 113)).cell? ⟨W.heap.size + 1, 0, none⟩ = some mv := by
    have := heap_alloc_new (W.alloc (.cells #[.func (.yield l) #[] #[]] 119)) (.cells #[mv] 113)
    rw [World.size_alloc] at this
    exact (bx_one this).1
  have hs2 : ((W.alloc (.cells #[.func (.yield l) #[] #[]] 119)).alloc (.cells #[mv] 113)).heap.size = W.heap.size + 1 + 1 := by simp
  have hBs1 : (W.alloc (.cells #[.func (.yield l) #[] #[]] 119)).cell? ⟨Bs, 0, none⟩ = some mv := fr_cell (Fr.alloc W _ (fun _ => False)) (fun h => h) hBs'
  obtain ⟨mo, rfl⟩ := hmv
  refine (callsIn_wide (n := 9)).1 ?_
  refine callsIn_of_wp_marks Try.func61 rfl trivial ?_ rfl
  simp only [Try.ntmps61, List.size_toArray, List.length_cons, List.length_nil, Nat.reduceAdd, Nat.reduceSub, Array.replicate_succ, Array.replicate_zero, List.push_toArray, List.append_toArray, List.nil_append, List.cons_append]
  gi_wp2
  refine wpIn_scope ?_
  refine wpIn_seq ?_
  refine wpIn_label ?_
  simp only [Exit.then]
  gi_wp2_with (refine ⟨trivial, ?_⟩; gi_at_call 62; refine (callsIn_wide.2 (inordA_fn _ ⟨_, rfl⟩)).mono ?_; rintro r w1 ⟨rfl, rfl⟩)
  have hM2 := hM.kept (Fr.ofBelow hb2 (fun _ => False)) (fun _ _ h => h)
  have hJ2 := hJ _ _ _ _ h0 (Fr.ofBelow hb2 _)
  generalize (W.alloc (.cells #[.func (.yield l) #[] #[]] 119)).alloc (.cells #[.map mo] 113) = W2 at hb2 hy2 hm2 hs2 hM2 hJ2 ⊢
  have hM3 := hM2.mono (T := fun k => O k ∨ k = W.heap.size + 1) (fun k _ h => Or.inl h)
  refine wpIn_rangeT (lb := #[.pointer (some ⟨W.heap.size + 1, 0, none⟩)]) (gf := 87) rfl (enters_of Try.func87 (by kernel_rfl) rfl)
    (inord_T hM3 (fun k hk => hk.elim (fun h => by have := hO' k h; omega) (fun h => by omega)) (Or.inr rfl) hm2 hB hok) (Below.refl _ _) (fun _ => rfl)
    (fun pre T V => J (flatL pre) T V ∧ V.heap[W.heap.size]? = some (.cells #[.func (.yield l) #[] #[]] 119 (0, 0)) ∧ ¬ T W.heap.size)
    (fun c pre T V => c = .exit 0 ∧ ∃ q, q <+: sortM B ∧ Jx q T V)
    (fun pre T V V' h f => ⟨hJ _ _ _ _ h.1 (f.mono (fun k _ hk => ⟨by omega, hk.2⟩)), (f.block _ (m_lt h.2.1) (fun hk => by omega)).trans h.2.1, h.2.2⟩)
    (fun c pre T V V' h f => by
      obtain ⟨h1, q, h2, h3⟩ := h
      exact ⟨h1, q, h2, hJx _ _ _ _ h3 (f.mono (fun k _ hk => ⟨by omega, hk.2⟩))⟩)
    T0 (fun k hk => ⟨by have := (hT0 k hk).1; omega, fun h => h.elim (hT0 k hk).2 (fun h => by have := (hT0 k hk).1; omega)⟩) ⟨hJ2, hy2, fun h => by have := (hT0 _ h).1; omega⟩ ?round ?done ?stop
  case round =>
    rintro m l' pre T x V hl' ⟨r, hr⟩ hTl ⟨hJp, hyp, hTy⟩ hpx hsp
    have hlt := m_lt hr
    have hyl : W.heap.size ≠ l' := by omega
    obtain ⟨L, ao, cc⟩ := x
    have hpx' : MsAt V (fun k => ¬ T k ∧ k < V.heap.size) ao L := hpx
    have HSp : Hid (flatL pre ++ L <+: sortM B) := by
      have := flatL_pre hsp
      rw [flatL_snoc] at this
      exact this
    dsimp only [encL]
    gi_wp2
    refine ⟨Fr.refl _ _, fun V2 f2 => ?_⟩
    have hJ3 := hJ _ _ _ _ hJp (f2.mono (fun k _ e => by subst e; exact ⟨by omega, hTl⟩))
    have hy3 := (f2.block _ (m_lt hyp) hyl).trans hyp
    have hp3 : MsAt V2 (fun k => ¬ T k) ao L := (hpx'.notLoop hr).kept f2 (fun k _ hk => ⟨hk.2, hk.1.1⟩)
    clear hpx hpx' hJp hyp hsp f2
    have hLl : L.length ≤ 9223372036854775807 := by
      have h1 := HSp.out.length_le
      rw [List.length_append, sortM_len] at h1
      omega
    gi_wp2
    gi_loopw [5, 11] (fun _ i wx => ∃ (j : Nat) (T1 : Nat → Prop), j ≤ L.length ∧ i = .int .i64 j ∧ J (flatL pre ++ L.take j) T1 wx ∧ MsAt wx (fun k => ¬ T1 k) ao L ∧ wx.heap[W.heap.size]? = some (.cells #[.func (.yield l) #[] #[]] 119 (0, 0)) ∧ ¬ T1 W.heap.size ∧ Fr V2 wx T ∧ Grows V2 wx T T1) (fun _ i _ => L.length - (intOf i).toNat)
    case atStart => exact ⟨0, T, Nat.zero_le _, rfl, by simpa using hJ3, hp3, hy3, hTy, Fr.refl _ _, Grows.refl _ _ _⟩
    case round =>
      obtain ⟨j, T1, hj, rfl, hJj, hpj, hyj, hT1, hfj, hgj⟩ := hrel
      clear hJ3 hp3 hy3
      by_cases hjl : j < L.length
      · have HT : Hid (L.take (j + 1) = L.take j ++ [L[j]]) := List.take_succ_eq_append_getElem hjl
        have HPr : Hid ((flatL pre ++ L.take j) ++ [L[j]] <+: sortM B) := by
          have h1 : flatL pre ++ L.take (j + 1) <+: flatL pre ++ L := (List.prefix_append_right_inj _).2 (List.take_prefix _ _)
          rw [HT.out, ← List.append_assoc] at h1
          exact h1.trans HSp.out
        have HM : Hid (MsAt wr (fun k => ¬ T1 k) ao L) := hpj
        obtain ⟨b, off, rfl, hb, hc⟩ := hpj (by omega)
        obtain ⟨c0, c1, c2, c3⟩ := hc j hjl
        obtain ⟨y0, y1⟩ := bx_one hyj
        generalize L[j] = y at HT HPr c0 c1 c2 c3
        obtain ⟨fn, tmps, assign, body, hyy, hR⟩ := hY _ T1 y (wr.alloc (.cells #[.int .i64 y.f, .int .i64 y.t, .int .i64 y.a, .int .i64 y.v] 67)) (hJ _ _ _ _ hJj (Fr.alloc _ _ _)) trivial HPr.out (m - 1)
        dsimp only [encM] at hyy
        have y2 : (wr.alloc (.cells #[.int .i64 y.f, .int .i64 y.t, .int .i64 y.a, .int .i64 y.v] 67)).cell? ⟨W.heap.size, 0, none⟩ = some (.func (.yield l) #[] #[]) := fr_cell (Fr.alloc wr _ (fun _ => False)) (fun h => h) y0
        have hyj2 := (Below.heap_alloc wr (.cells #[.int .i64 y.f, .int .i64 y.t, .int .i64 y.a, .int .i64 y.v] 67) _ (m_lt hyj)).trans hyj
        have HM2 : Hid _ := HM.out.new ((Below.refl _ wr).alloc (Nat.le_refl _) (.cells #[.int .i64 y.f, .int .i64 y.t, .int .i64 y.a, .int .i64 y.v] 67))
        have hFa : Fr V2 (wr.alloc (.cells #[.int .i64 y.f, .int .i64 y.t, .int .i64 y.a, .int .i64 y.v] 67)) T := hfj.trans (Fr.alloc wr _ (fun _ => False)) (fun _ _ h => h.elim)
        have hsa : (wr.alloc (.cells #[.int .i64 y.f, .int .i64 y.t, .int .i64 y.a, .int .i64 y.v] 67)).heap.size = wr.heap.size + 1 := by simp
        have hsv := hfj.size
        have HYJ : Hid _ := hyj2
        have HFa : Hid _ := hFa
        clear hpj hc hJj hyj2 hFa
        gi_wp2
        refine ⟨fun h => by simp [Fence.wide] at h, (RoundIn.deep hR).mono ?_⟩
        rintro e W4 ⟨T2, g4, (⟨rfl, f4, hJ4⟩ | ⟨rfl, f4, hJx4⟩)⟩
        · have hF4 : Fr V2 W4 T := HFa.out.trans f4 (fun k hk ht => (hgj k ht).resolve_right (by omega))
          have hG4 : Grows V2 W4 T T2 := fun k hk => by
            rcases g4 k hk with h | h
            · rcases hgj k h with h | h
              · exact .inl h
              · exact .inr ⟨h.1, by have := f4.size; omega⟩
            · exact .inr ⟨by omega, h.2⟩
          obtain ⟨hy4, hT4⟩ := Ow.keep HYJ.out hT1 f4 g4
          have hM4 : MsAt W4 (fun k => ¬ T2 k) (some ⟨b, off, none⟩) L := MsAt.kept HM2.out f4 (fun k hk hp => ⟨hp, fun h => (g4 k h).elim hp (fun h' => by omega)⟩)
          gi_wp2
          go_roundw
          case rel => exact ⟨j + 1, T2, by omega, by go_num, by rw [HT.out, ← List.append_assoc]; exact hJ4, hM4, hy4, hT4, hF4, hG4⟩
          case measure => simp [intOf]; omega
        · have hF4 : Fr V2 W4 (fun k => T k ∨ k < W2.heap.size) := (HFa.out.mono (fun _ _ h => .inl h)).trans f4 (fun k hk ht => ht.elim (fun h => (hgj k h).elim .inl (fun h => by omega)) (fun h => .inr (by omega)))
          have hG4 : Grows V2 W4 T T2 := fun k hk => by
            rcases g4 k hk with h | h
            · rcases hgj k h with h | h
              · exact .inl h
              · exact .inr ⟨h.1, by have := f4.size; omega⟩
            · exact .inr ⟨by omega, h.2⟩
          gi_wp2
          exact ⟨T2, hF4, hG4, rfl, _, HPr.out, hJx4⟩
      · obtain rfl : j = L.length := by omega
        rw [List.take_length] at hJj
        gi_wp2
        exact ⟨T1, hfj, hgj, by rw [flatL_snoc]; exact hJj, hyj, hT1⟩
  case done =>
    rintro D xs T V hD hS ⟨hJd, _, _⟩ hTD hK
    have e : flatL xs = sortM B := by unfold flatL; rw [hS, rows_flat]
    refine ⟨by simp, .inl ⟨_, _, rfl, run_takeDeferred hK, ?_⟩⟩
    refine ⟨.tuple #[], ?_, ⟨_, rfl⟩, .inl ⟨flatL xs, T, e, hJ _ _ _ _ hJd (Fr.putObj _ ⟨by omega, hTD⟩)⟩⟩
    simp [results, Try.results61, go_sem]
  case stop =>
    rintro D c pre T V hD hSp ⟨rfl, q, hq, hJq⟩ hTD hK
    gi_wp2
    refine ⟨by simp, .inl ⟨_, _, rfl, run_takeDeferred hK, ?_⟩⟩
    refine ⟨.tuple #[], ?_, ⟨_, rfl⟩, .inr ⟨q, T, hq, hJx _ _ _ _ hJq (Fr.putObj _ ⟨by omega, hTD⟩)⟩⟩
    simp [results, Try.results61, go_sem]
end Go.Proofs.Ytfajkfngjfhkoaa
