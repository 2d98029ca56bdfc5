import Derived.Test.YtmpbdaogdahiiaaLawSs1M
import Derived.Test.YtmpbdaogdahiiaaSpClM
import Derived.Test.YtmpbdaogdahiiaaSpDegM
import Derived.Scope
import Derived.Test.YtmpbdaogdahiiaaSpWvM
import Derived.Test.YtmpbdaogdahiiaaRegUM
section
/- SpecSets, plain: what components, colours say of neighbours. -/
namespace Go.Proofs.Ytmpbdaogdahiiaa
section
variable {N : List (List Int)} {n : Nat} {I L : List Int} {Fd : List Bool} {c : Nat → Nat}
theorem sf_par (h : CI N n I n Fd c L) {i a : Nat} (hi : i < n) (ha : a < n) (hb : nbB N i a = true) : L.getD a 0 = L.getD i 0 := by
  obtain ⟨_, h2⟩ := h.cls i hi (h.all i hi) a (nbB_iff.1 hb)
  rw [(h.le a ha (h.all a ha)).2.2.2, (h.le i hi (h.all i hi)).2.2.2, h2]
theorem sf_cc (h : CI N n I n Fd c L) {i : Nat} (hi : i < n) : c i ≤ i ∧ L.getD (c i) 0 = L.getD i 0 := by
  obtain ⟨h1, h2, _, h4⟩ := h.le i hi (h.all i hi)
  refine ⟨h1, ?_⟩
  rw [(h.le (c i) (by omega) (h.all _ (by omega))).2.2.2, h2, h4]
theorem sf_find {G : List Vx} (hr : Rise (ids G)) (h : CI N G.length (ids G) G.length Fd c L) {i : Nat} (hi : i < G.length) : findN (ids G) (L.getD i 0) = c i ∧ foundB (ids G) (L.getD i 0) = true := by
  obtain ⟨h1, _, _, h4⟩ := h.le i hi (h.all i hi)
  have hc : c i < G.length := by omega
  have e : (ids G).getD (c i) 0 = G[c i].id := by
    have : c i < (ids G).length := by rw [ids_len]; exact hc
    simp [List.getD, ids, hc]
  rw [h4, e]
  have h5 := id_at hr hc
  refine ⟨h5, ?_⟩
  unfold foundB
  rw [h5]
  simp [ids, hc]
theorem sf_col {C : List Int} (hR : Rows2 N n) (h : ∀ i, i < n → colOK N C i) {i a : Nat} (hi : i < n) (ha : a < n) (hb : nbB N i a = true) : C.getD a 0 ≠ C.getD i 0 := by
  have hm := nbB_iff.1 hb
  rcases Nat.lt_trichotomy a i with h1 | h1 | h1
  · obtain ⟨d, hd, _, hA, _⟩ := h i hi
    rw [hd]
    have := hA _ hm (by omega)
    simpa using this
  · subst h1
    exact absurd hm (hR.self a ha)
  · obtain ⟨d, hd, _, hA, _⟩ := h a ha
    rw [hd]
    have := hA _ (hR.sym i a hi ha hm) (by omega)
    intro e
    exact this (by simpa using e.symm)
theorem sf_c64 {C : List Int} (h : ∀ i, i < n → colOK N C i) {a : Nat} (ha : a < n) : 0 ≤ C.getD a 0 ∧ C.getD a 0 ≤ 4096 := by
  obtain ⟨d, hd, h2, _⟩ := h a ha
  rw [hd]
  omega
theorem sf_cB {C : List Int} (hR : Rows2 N n) (h : ∀ i, i < n → colOK N C i) {i : Nat} (hi : i < n) (d : Nat) (hd : (d : Int) < C.getD i 0) : seenP N C i n d := by
  obtain ⟨c0, hc, _, _, hB⟩ := h i hi
  rw [hc] at hd
  obtain ⟨x, hx, h1, h2⟩ := hB d (by omega)
  obtain ⟨a, ha, rfl⟩ := hR.nat i hi x hx
  exact ⟨a, ha, by omega, nbB_iff.2 hx, by simpa using h2⟩
theorem sf_cA {C : List Int} (h : ∀ i, i < n → colOK N C i) {i : Nat} (hi : i < n) : ¬ seenP N C i n (C.getD i 0) := by
  rintro ⟨a, ha, hai, hb, he⟩
  obtain ⟨c0, hc, _, hA, _⟩ := h i hi
  have := hA _ (nbB_iff.1 hb) (by omega)
  rw [hc] at he
  exact this (by simpa using he)
end
end Go.Proofs.Ytmpbdaogdahiiaa
end

section
/- spec.Colors: the least that no lesser neighbour has. -/
namespace Go.Proofs.Ytmpbdaogdahiiaa
open Go.RowKit Go.Shelf
attribute [local go_sem] Oper.semAt_some
theorem noGoto_normal {Q : Exit → Act → World → Prop} {a : Act} {w : World} (h : Q .normal a w) : Exit.noGoto Q .normal a w := h
set_option maxRecDepth 100000 in
set_option maxHeartbeats 8000000 in
theorem colors_any {w : World} {P : Nat → Prop} {ao : Option Addr} {G : List Vx} (cap : Nat) (h : VxAt w P ao G) (hok : ∀ v ∈ G, v.ok) (hr : Rise (ids G)) (hth : thereE G = true) (hl : G.length ≤ 256) (he : (evs G).length ≤ 2048) :
    Calls Try.prog 15 #[.agg #[.slice ao G.length cap]] w fun r w' => (∃ m C, r = .returned (.slice (some ⟨m, 0, none⟩) G.length G.length) ∧ IB w' m C ∧ C.length = G.length ∧ (∀ i, i < G.length → colOK (nearR G) C i) ∧ w.heap.size ≤ m) ∧ Below w.heap.size w w' := by
  obtain ⟨i0, hi, hz0, hz1, hz2⟩ := info_parts infoSI
  have HRow : Hid (∀ i, i < G.length → ((nearR G).getD i []).length ≤ 4096 ∧ ∀ x ∈ (nearR G).getD i [], ∃ j : Nat, j < G.length ∧ x = j) := fun i hi => by
    obtain ⟨h1, h2, h3⟩ := nearR_row hr hth he hi
    exact ⟨h2, fun x hx => by obtain ⟨j, e, hj⟩ := (h3 x).1 hx; exact ⟨j, nearP_lt hj, e⟩⟩
  have HWv : Hid (∀ W, Below w.heap.size w W → Calls Try.prog 31 #[.agg #[.slice ao G.length cap]] W fun r w' => (∃ gi ci g1 g2 B, r = .returned (.agg #[.slice (some ⟨gi, 0, none⟩) G.length ci, .slice (some ⟨g1, 0, none⟩) G.length G.length, .slice (some ⟨g2, 0, none⟩) G.length G.length]) ∧ WebAt w' W.heap.size gi ci g1 g2 B G.length (ids G) (foldW (ids G) G.length (evs G)).1 (nearR G)) ∧ Below W.heap.size W w') := fun W hb => weave_any cap (h.new hb) hok hr hth hl he
  have hNl := nearR_len G
  generalize (foldW (ids G) G.length (evs G)).1 = O at HWv
  generalize nearR G = N at HRow HWv hNl ⊢
  generalize ids G = I at HWv
  obtain ⟨n, hn⟩ : ∃ n, G.length = n := ⟨_, rfl⟩
  rw [hn] at HRow HWv hNl hl ⊢
  have hmk : ∀ W : World, (Instr.makeSlice 36 (.int .i64 (n : Int)) (.int .i64 (n : Int))).run Try.prog W = .ok (.slice (some ⟨W.heap.size, 0, none⟩) n n) (W.alloc (.cells (madeCells #[.int .i64 0] n) 2)) := fun W => by
    have := run_make (P := Try.prog) W 36 2 i0 (.int .i64 0) Try.underlying36 hi hz0 .i64 .i64 n n (by omega) (by omega) (by rw [hz2]; omega) (by omega)
    simpa [hz1, Value.cells] using this
  clear h hok hr hth he hn
  go_enter Try.func15, Try.ntmps15
  go_wp2_with (go_at_call 31; refine (HWv.out _ (one_new _ _)).mono ?_; rintro r w1 ⟨⟨gi, ci, g1, g2, B, rfl, hw1⟩, hb1⟩)
  obtain ⟨vs, hM⟩ := hw1.nm
  have HM : Hid _ := hM
  have hg2 := lt_of_block hM.blk
  have hs1 := hb1.size
  rw [World.size_alloc] at hs1
  obtain ⟨m, hm⟩ : ∃ m, w1.heap.size + 1 = m := ⟨_, rfl⟩
  have hmw : w1.heap.size < m := by omega
  generalize hW2 : World.alloc (World.alloc w1 _) _ = W2
  have HI0 : Hid (IB W2 m (List.replicate n 0)) := by
    rw [← hW2, ← hm]
    have := IB.made (w1.alloc (.cells #[.slice (some ⟨gi, 0, none⟩) n ci, .slice (some ⟨g1, 0, none⟩) n n, .slice (some ⟨g2, 0, none⟩) n n] 76)) n
    rw [World.size_alloc] at this
    exact this
  have HF0 : Hid (Fr w1 W2 (fun k => k = m)) := by
    rw [← hW2]
    exact (Fr.alloc _ _ _).trans (Fr.alloc _ _ _) (fun _ _ h => h)
  have HBe : Hid (Below w.heap.size w w1) := (one_new w _).trans (hb1.mono (by rw [World.size_alloc]; omega))
  rw [hm]
  clear hW2 hM hw1 hb1 HWv hmk
  go_loopw [5, 6, 7, 9, 19] (fun _ _ _ _ i wr => ∃ (j : Nat) (C : List Int), j ≤ n ∧ i = .int .i64 j ∧ C.length = n ∧ Hid (∀ q, q < j → colOK N C q) ∧ Hid (IB wr m C) ∧ Hid (Fr w1 wr (fun k => k = m))) (fun _ _ _ _ i _ => n - (intOf i).toNat)
  case atStart => exact ⟨0, List.replicate n 0, Nat.zero_le _, rfl, List.length_replicate, fun q hq => absurd hq (Nat.not_lt_zero _), HI0.out, HF0.out⟩
  case round =>
    obtain ⟨j, C, hj, rfl, hC, HCo, HI, HF⟩ := hrel
    by_cases hlt : j < n
    · have hjN : j < N.length := by rw [hNl]; exact hlt
      have hM2 := HM.out.kept HF.out (by omega) (fun k hk e => by have := (HM.out.lt hk).2; omega)
      obtain ⟨u, hu, cu, fu, ou⟩ := hM2.at_ hjN
      rw [flat_I1] at ou
      have gN : N.getD j [] = N[j] := by simp [List.getD, hjN]
      have HPc : Hid (0 < N[j].length → ∃ g c, u = .slice (some ⟨g, 0, none⟩) N[j].length c ∧ g < w1.heap.size ∧ ∀ k (hk : k < N[j].length), w1.cell? ⟨g, k, none⟩ = some (.int .i64 N[j][k])) := fun h0 => by
        obtain ⟨u', hu', cu', fu', ou'⟩ := HM.out.at_ hjN
        rw [hu] at hu'
        cases hu'
        rw [flat_I1] at ou'
        obtain ⟨a1, a2, a3, rfl⟩ := own_any ou'
        obtain ⟨e1, e2⟩ := ri_at ou'
        obtain ⟨g, e3, _, e4⟩ := e2 h0
        subst e1 e3
        exact ⟨g, a3, rfl, (HM.out.lt ⟨j, _, hu, rfl⟩).2, fun k hk => (e4 k hk).1⟩
      obtain ⟨p, c0, rfl⟩ : ∃ p c, u = .slice p N[j].length c := by
        obtain ⟨a1, a2, a3, rfl⟩ := own_any ou
        obtain ⟨e1, _⟩ := ri_at ou
        exact ⟨a1, a3, by rw [e1]⟩
      obtain ⟨hr1, hr2⟩ := HRow.out j hlt
      have HPut : Hid (∀ c : Nat, colA N[j] C j c → colB N[j] C j c → ∀ i, i < j + 1 → colOK N (C.set j (c : Int)) i) := fun c h1 h2 => by
        rw [← gN] at h1 h2
        refine col_put HCo.out h1 h2 (Nat.le_trans (colB_le h2) hr1) (by rw [hC]; exact hlt) (fun i hi x hx => ?_)
        obtain ⟨a, _, rfl⟩ := (HRow.out i (by omega)).2 x hx
        omega
      rw [gN] at hr1 hr2
      have HR2 : Hid _ := hr2
      generalize N[j] = row at cu HPc hr1 HR2 HPut
      clear hM2 ou hu fu gN hr2
      go_wp2
      refine wp_scope_straight ?_
      refine wp_seq (wp_label ?_)
      go_wp2
      go_loopw [7, 9] (fun x _ wr => ∃ c : Nat, x = .int .i64 c ∧ Hid (colB row C j c) ∧ Hid (IB wr m C) ∧ Hid (Fr w1 wr (fun k => k = m))) (fun x _ _ => row.length + 1 - (intOf x).toNat)
      case atStart => exact ⟨0, rfl, fun d hd => absurd hd (Nat.not_lt_zero _), HI.out, HF.out⟩
      case round =>
        obtain ⟨c, rfl, HcB, HI1, HF1⟩ := hrel
        have hcl := colB_le HcB.out
        go_wp2
        go_loopw [9, 28] (fun _ i wr => ∃ k : Nat, k ≤ row.length ∧ i = .int .i64 k ∧ Hid (∀ x ∈ row.take k, x < (j : Int) → C.getD x.toNat 0 ≠ (c : Int)) ∧ Hid (IB wr m C) ∧ Hid (Fr w1 wr (fun k => k = m))) (fun _ i _ => row.length - (intOf i).toNat)
        case atStart => exact ⟨0, Nat.zero_le _, rfl, fun x hx => by simp at hx, HI1.out, HF1.out⟩
        case round =>
          obtain ⟨k, hk, rfl, HNo, HI2, HF2⟩ := hrel
          by_cases hlk : k < row.length
          · obtain ⟨g, c1, e1, hg, hc⟩ := HPc.out (by omega)
            cases e1
            have d0 := fr_cell HF2.out (by show ¬ _ = _; omega) (hc k hlk)
            obtain ⟨t, htn, ht⟩ := HR2.out _ (List.getElem_mem hlk)
            have htC : t < C.length := by rw [hC]; exact htn
            have a0 := (IB.cell HI2.out htC).1
            have HT : Hid (row.take (k + 1) = row.take k ++ [(t : Int)]) := by
              show _ = _
              rw [List.take_add_one, List.getElem?_eq_getElem hlk, ht]
              rfl
            have HMem : Hid ((t : Int) ∈ row) := by rw [← ht]; exact List.getElem_mem hlk
            have HGd : Hid (C.getD t 0 = C[t]) := by show _ = _; simp [List.getD, htC]
            rw [ht] at d0
            generalize C[t] = y at a0 HGd
            clear hc ht
            by_cases htj : t < j
            · by_cases hy : y = (c : Int)
              · subst hy
                have hee : ((c : Int) == (c : Int)) = true := by simp
                have HcB' : Hid (colB row C j (c + 1)) := fun d hd => by
                  by_cases e : d = c
                  · subst e
                    exact ⟨t, HMem.out, by omega, HGd.out⟩
                  · exact HcB.out d (by omega)
                have hcl' := colB_le HcB'.out
                go_upto_region 7 with (fail)
                clear hee
                go_wp2
                go_roundw
                case rel => exact ⟨c + 1, by go_num, HcB', HI2, HF2⟩
                case measure => simp [intOf]; omega
              · have hne : (y == (c : Int)) = false := by simp [hy]
                have HNo' : Hid (∀ x ∈ row.take (k + 1), x < (j : Int) → C.getD x.toNat 0 ≠ (c : Int)) := by
                  rw [HT.out]
                  intro x hx hxj
                  rcases List.mem_append.1 hx with h1 | h1
                  · exact HNo.out x h1 hxj
                  · obtain rfl := List.mem_singleton.1 h1
                    rw [Int.toNat_natCast, HGd.out]
                    exact hy
                go_wp2
                go_roundw
                case rel => exact ⟨k + 1, by omega, by go_num, HNo', HI2, HF2⟩
                case measure => simp [intOf]; omega
            · have HNo' : Hid (∀ x ∈ row.take (k + 1), x < (j : Int) → C.getD x.toNat 0 ≠ (c : Int)) := by
                rw [HT.out]
                intro x hx hxj
                rcases List.mem_append.1 hx with h1 | h1
                · exact HNo.out x h1 hxj
                · obtain rfl := List.mem_singleton.1 h1
                  omega
              go_wp2
              go_roundw
              case rel => exact ⟨k + 1, by omega, by go_num, HNo', HI2, HF2⟩
              case measure => simp [intOf]; omega
          · obtain rfl : k = row.length := by omega
            have HNo' : Hid (colA row C j c) := by
              have := HNo.out
              rw [List.take_of_length_le (Nat.le_refl _)] at this
              exact this
            have hjC : j < C.length := by rw [hC]; exact hlt
            obtain ⟨a0, a1⟩ := IB.cell HI2.out hjC
            have HOk : Hid (∀ i, i < j + 1 → colOK N (C.set j (c : Int)) i) := HPut.out c HNo'.out HcB.out
            generalize C[j] = y at a0
            go_wp2
            generalize hW5 : World.setCell _ _ _ = W5
            have HI5 : Hid (IB W5 m (C.set j (c : Int))) := by rw [← hW5]; exact IB.set HI2.out _ _
            have HF5 : Hid (Fr w1 W5 (fun q => q = m)) := by rw [← hW5]; exact HF2.out.trans (Fr.setCell (S := fun q => q = m) _ _ _ rfl) (fun _ _ h => h)
            refine noGoto_normal ?_
            go_wp2
            go_roundw
            case rel => exact ⟨j + 1, C.set j (c : Int), by omega, by go_num, by rw [List.length_set]; exact hC, HOk, HI5, HF5⟩
            case measure => simp [intOf]; omega
    · obtain rfl : j = n := by omega
      go_wp2
      go_ret
      have l1 : Below w.heap.size w wr := HBe.out.trans (HF.out.below HBe.out.size (fun k hk => by omega))
      exact ⟨⟨m, C, rfl, HI.out, hC, HCo.out, by omega⟩, l1⟩
end Go.Proofs.Ytmpbdaogdahiiaa
end

section
/- container/heap at a queue of one. -/
namespace Go.Proofs.Ytmpbdaogdahiiaa
open Go.RowKit Go.Shelf
attribute [local go_sem] Oper.semAt_some
set_option maxRecDepth 100000 in
set_option maxHeartbeats 2000000 in
theorem len_any {W : World} {p : Option Addr} {n c : Nat} : Calls Try.prog 51 #[.slice p n c] W fun r w' => r = .returned (.int .i64 n) ∧ w' = W := by
  go_enter Try.func51, Try.ntmps51
  go_wp2
  go_ret
  exact ⟨rfl, rfl⟩
theorem m_pop (v : Value) (W : World) (qb : Nat) (hv : v = .pointer (some ⟨qb, 0, none⟩)) : (method 310 103 v "Pop").run Try.prog W = .ok (152, v) W := by subst hv; kernel_rfl
theorem m_push (v : Value) (W : World) (qb : Nat) (hv : v = .pointer (some ⟨qb, 0, none⟩)) : (method 310 103 v "Push").run Try.prog W = .ok (153, v) W := by subst hv; kernel_rfl
theorem wrap_chk (W : World) (a : Addr) (t : TypeId) (nm : String) : (Builtin.ssaWrapNilChk_ #[t] t #[.pointer (some a), strVal "", strVal nm]).run Try.prog W = .ok (.pointer (some a)) W := rfl
theorem i_len : (Try.prog.info? 103).map (fun i => (i.methods.find? (·.name == "Len")).map (fun m => (m.path.toList, m.path.isEmpty, m.func))) = some (some ([], true, some (51, false))) := by kernel_rfl
theorem m_len {W : World} {qb n c : Nat} {p : Option Addr} (hb : W.cell? ⟨qb, 0, none⟩ = some (.slice p n c)) : (method 310 103 (.pointer (some ⟨qb, 0, none⟩)) "Len").run Try.prog W = .ok (51, .slice p n c) W := by
  obtain ⟨i, hi, h1⟩ := Option.map_eq_some_iff.1 i_len
  obtain ⟨m, hm, h2⟩ := Option.map_eq_some_iff.1 h1
  simp only [Prod.mk.injEq] at h2
  have hp : m.path = #[] := by simpa using h2.1
  unfold method
  simp [typeInfo, hi, hm, h2.2.2, hp, follow, receiverAt, Place.get, wrap_chk, go_sem, hb, run_underlying Try.underlying103]
theorem i_swap : (Try.prog.info? 103).map (fun i => (i.methods.find? (·.name == "Swap")).map (fun m => (m.path.toList, m.path.isEmpty, m.func))) = some (some ([], true, some (154, false))) := by kernel_rfl
theorem m_swap {W : World} {qb n c : Nat} {p : Option Addr} (hb : W.cell? ⟨qb, 0, none⟩ = some (.slice p n c)) : (method 310 103 (.pointer (some ⟨qb, 0, none⟩)) "Swap").run Try.prog W = .ok (154, .slice p n c) W := by
  obtain ⟨i, hi, h1⟩ := Option.map_eq_some_iff.1 i_swap
  obtain ⟨m, hm, h2⟩ := Option.map_eq_some_iff.1 h1
  simp only [Prod.mk.injEq] at h2
  have hp : m.path = #[] := by simpa using h2.1
  unfold method
  simp [typeInfo, hi, hm, h2.2.2, hp, follow, receiverAt, Place.get, wrap_chk, go_sem, hb, run_underlying Try.underlying103]
/-- A cell is laid anew, as it is. -/
theorem fr_same {W : World} {g i : Nat} {cs : Array Value} {t : TypeId} {f : Nat × Nat} {v : Value} (h : W.heap[g]? = some (.cells cs t f)) (hv : cs[i]? = some v) : Fr W (W.setCell ⟨g, i, none⟩ v) (fun _ => False) ∧ (W.setCell ⟨g, i, none⟩ v).heap[g]? = some (.cells cs t f) := by
  have h1 := set_heap h i v
  have e : cs.setIfInBounds i v = cs := by
    apply Array.ext
    · simp
    · intro k h1 h2
      rw [Array.getElem_setIfInBounds]
      by_cases e : i = k
      · subst e; rw [if_pos rfl]; exact ((Array.getElem?_eq_some_iff.1 hv).2).symm
      · rw [if_neg e]
  rw [e] at h1
  refine ⟨?_, h1⟩
  have f0 : Fr W (W.setCell ⟨g, i, none⟩ v) (fun k => k = g) := Fr.setCell _ _ _ rfl
  exact ⟨f0.1, f0.2, f0.3, f0.size, fun k hk _ => by
    by_cases e : k = g
    · subst e; exact h1.trans h.symm
    · exact f0.block k hk e⟩
theorem store_two {W : World} {g : Nat} {cs : Array Value} {t : TypeId} {v u : Value} (h : W.heap[g]? = some (.cells cs t (0, 0))) (h0 : cs[0]? = some v) (h1 : cs[1]? = some u) :
    W.cell? ⟨g, 0, none⟩ = some v ∧ W.cell? ⟨g, 1, none⟩ = some u ∧ W.frozen? ⟨g, 0, none⟩ = false ∧ (W.setCell ⟨g, 0, none⟩ v).cell? ⟨g, 1, none⟩ = some u ∧ (W.setCell ⟨g, 0, none⟩ v).frozen? ⟨g, 1, none⟩ = false ∧ ((W.setCell ⟨g, 0, none⟩ v).setCell ⟨g, 1, none⟩ u).heap[g]? = some (.cells cs t (0, 0)) ∧ Fr W ((W.setCell ⟨g, 0, none⟩ v).setCell ⟨g, 1, none⟩ u) (fun _ => False) := by
  obtain ⟨f1, k1⟩ := fr_same h h0
  obtain ⟨f2, k2⟩ := fr_same k1 h1
  exact ⟨by simp [World.cell?, h, h0], by simp [World.cell?, h, h1], by simp [World.frozen?, h], by simp [World.cell?, k1, h1], by simp [World.frozen?, k1], k2, f1.trans f2 (fun _ _ h => h)⟩
set_option maxRecDepth 100000 in
set_option maxHeartbeats 4000000 in
theorem swap_one {W : World} {g c : Nat} {cs : Array Value} {t : TypeId} {a f : Int} (hg : W.heap[g]? = some (.cells cs t (0, 0))) (hc0 : cs[0]? = some (.int .i64 a)) (hc1 : cs[1]? = some (.int .i64 f)) : Calls Try.prog 154 #[.slice (some ⟨g, 0, none⟩) 1 c, .int .i64 0, .int .i64 0] W fun r w' => r = .returned (.tuple #[]) ∧ Fr W w' (fun _ => False) := by
  obtain ⟨Wd, hWd⟩ : ∃ Wd, W.drew = Wd := ⟨_, rfl⟩
  have hgd : Wd.heap[g]? = some (.cells cs t (0, 0)) := by rw [← hWd]; exact hg
  have HBd : Hid (Fr W Wd (fun _ => False)) := by rw [← hWd]; exact Fr.ofBelow (Below.drew (Below.refl _ W)) _
  obtain ⟨h0, h1, y0, y1, y2, y3, y4⟩ := store_two hgd hc0 hc1
  have hS0 : (fun w' : World => w'.cell? ⟨g, 0, none⟩ = some (.int .i64 a) ∧ w'.cell? ⟨g, 1, none⟩ = some (.int .i64 f)) Wd := ⟨h0, h1⟩
  have HG : Hid _ := y3
  have HF : Hid _ := y4
  clear hg hgd y3 y4
  go_enter Try.func154, Try.ntmps154
  go_wp2
  refine wp_calm ?_
  refine wp_region_L [15] (fun w' : World => w'.cell? ⟨g, 0, none⟩ = some (.int .i64 a) ∧ w'.cell? ⟨g, 1, none⟩ = some (.int .i64 f)) (by kernel_rfl) ?_
  rw [hWd]
  clear hWd
  refine wpAnyL_take (i := 0) 6 (v := .slice (some ⟨g, 0, none⟩) 1 c) rfl rfl (by kernel_rfl) (by kernel_rfl) (by kernel_rfl) (by kernel_rfl) (by kernel_rfl) (by kernel_rfl) (fun _ _ _ h => h) hS0 (by rfl) (by intro w' hSw; (try dsimp only at hSw); obtain ⟨hSa, hSb⟩ := hSw; go_simp <;> with_reducible rfl) ?_
  simp only [Act.put, List.setIfInBounds_toArray, List.set_cons_zero, List.set_cons_succ]
  refine wpAnyL_take (i := 1) 7 (v := .int .i64 0) rfl rfl (by kernel_rfl) (by kernel_rfl) (by kernel_rfl) (by kernel_rfl) (by kernel_rfl) (by kernel_rfl) (fun _ _ _ h => h) hS0 (by rfl) (by intro w' hSw; (try dsimp only at hSw); obtain ⟨hSa, hSb⟩ := hSw; go_simp <;> with_reducible rfl) ?_
  simp only [Act.put, List.setIfInBounds_toArray, List.set_cons_zero, List.set_cons_succ]
  refine wpAnyL_take (i := 2) 8 (v := .slice (some ⟨g, 0, none⟩) 1 c) rfl rfl (by kernel_rfl) (by kernel_rfl) (by kernel_rfl) (by kernel_rfl) (by kernel_rfl) (by kernel_rfl) (fun _ _ _ h => h) hS0 (by rfl) (by intro w' hSw; (try dsimp only at hSw); obtain ⟨hSa, hSb⟩ := hSw; go_simp <;> with_reducible rfl) ?_
  simp only [Act.put, List.setIfInBounds_toArray, List.set_cons_zero, List.set_cons_succ]
  refine wpAnyL_take (i := 3) 9 (v := .int .i64 0) rfl rfl (by kernel_rfl) (by kernel_rfl) (by kernel_rfl) (by kernel_rfl) (by kernel_rfl) (by kernel_rfl) (fun _ _ _ h => h) hS0 (by rfl) (by intro w' hSw; (try dsimp only at hSw); obtain ⟨hSa, hSb⟩ := hSw; go_simp <;> with_reducible rfl) ?_
  simp only [Act.put, List.setIfInBounds_toArray, List.set_cons_zero, List.set_cons_succ]
  refine wpAnyL_take (i := 4) 10 (v := .slice (some ⟨g, 0, none⟩) 1 c) rfl rfl (by kernel_rfl) (by kernel_rfl) (by kernel_rfl) (by kernel_rfl) (by kernel_rfl) (by kernel_rfl) (fun _ _ _ h => h) hS0 (by rfl) (by intro w' hSw; (try dsimp only at hSw); obtain ⟨hSa, hSb⟩ := hSw; go_simp <;> with_reducible rfl) ?_
  simp only [Act.put, List.setIfInBounds_toArray, List.set_cons_zero, List.set_cons_succ]
  refine wpAnyL_take (i := 5) 11 (v := .int .i64 0) rfl rfl (by kernel_rfl) (by kernel_rfl) (by kernel_rfl) (by kernel_rfl) (by kernel_rfl) (by kernel_rfl) (fun _ _ _ h => h) hS0 (by rfl) (by intro w' hSw; (try dsimp only at hSw); obtain ⟨hSa, hSb⟩ := hSw; go_simp <;> with_reducible rfl) ?_
  simp only [Act.put, List.setIfInBounds_toArray, List.set_cons_zero, List.set_cons_succ]
  refine wpAnyL_take (i := 6) 12 (v := .pointer (some ⟨g, 0, none⟩)) rfl rfl (by kernel_rfl) (by kernel_rfl) (by kernel_rfl) (by kernel_rfl) (by kernel_rfl) (by kernel_rfl) (fun _ _ _ h => h) hS0 (by rfl) (by intro w' hSw; (try dsimp only at hSw); obtain ⟨hSa, hSb⟩ := hSw; go_simp <;> with_reducible rfl) ?_
  simp only [Act.put, List.setIfInBounds_toArray, List.set_cons_zero, List.set_cons_succ]
  refine wpAnyL_take (i := 7) 13 (v := .agg #[.int .i64 a, .int .i64 f]) rfl rfl (by kernel_rfl) (by kernel_rfl) (by kernel_rfl) (by kernel_rfl) (by kernel_rfl) (by kernel_rfl) (fun _ _ _ h => h) hS0 (by rfl) (by intro w' hSw; (try dsimp only at hSw); obtain ⟨hSa, hSb⟩ := hSw; go_simp <;> with_reducible rfl) ?_
  simp only [Act.put, List.setIfInBounds_toArray, List.set_cons_zero, List.set_cons_succ]
  refine wpAnyL_take (i := 8) 14 (v := .slice (some ⟨g, 0, none⟩) 1 c) rfl rfl (by kernel_rfl) (by kernel_rfl) (by kernel_rfl) (by kernel_rfl) (by kernel_rfl) (by kernel_rfl) (fun _ _ _ h => h) hS0 (by rfl) (by intro w' hSw; (try dsimp only at hSw); obtain ⟨hSa, hSb⟩ := hSw; go_simp <;> with_reducible rfl) ?_
  simp only [Act.put, List.setIfInBounds_toArray, List.set_cons_zero, List.set_cons_succ]
  refine wpAnyL_take (i := 9) 15 (v := .int .i64 0) rfl rfl (by kernel_rfl) (by kernel_rfl) (by kernel_rfl) (by kernel_rfl) (by kernel_rfl) (by kernel_rfl) (fun _ _ _ h => h) hS0 (by rfl) (by intro w' hSw; (try dsimp only at hSw); obtain ⟨hSa, hSb⟩ := hSw; go_simp <;> with_reducible rfl) ?_
  simp only [Act.put, List.setIfInBounds_toArray, List.set_cons_zero, List.set_cons_succ]
  refine wpAnyL_take (i := 10) 16 (v := .pointer (some ⟨g, 0, none⟩)) rfl rfl (by kernel_rfl) (by kernel_rfl) (by kernel_rfl) (by kernel_rfl) (by kernel_rfl) (by kernel_rfl) (fun _ _ _ h => h) hS0 (by rfl) (by intro w' hSw; (try dsimp only at hSw); obtain ⟨hSa, hSb⟩ := hSw; go_simp <;> with_reducible rfl) ?_
  simp only [Act.put, List.setIfInBounds_toArray, List.set_cons_zero, List.set_cons_succ]
  refine wpAnyL_take (i := 11) 17 (v := .agg #[.int .i64 a, .int .i64 f]) rfl rfl (by kernel_rfl) (by kernel_rfl) (by kernel_rfl) (by kernel_rfl) (by kernel_rfl) (by kernel_rfl) (fun _ _ _ h => h) hS0 (by rfl) (by intro w' hSw; (try dsimp only at hSw); obtain ⟨hSa, hSb⟩ := hSw; go_simp <;> with_reducible rfl) ?_
  simp only [Act.put, List.setIfInBounds_toArray, List.set_cons_zero, List.set_cons_succ]
  refine wpAnyL_one (i := 12) (by kernel_rfl) rfl (fun Ka hKa => ?_)
  go_simp
  refine hKa.out _ _ (fun _ => hS0) ?_
  clear hKa Ka
  try simp only [Act.put, List.setIfInBounds_toArray, List.set_cons_zero, List.set_cons_succ]
  refine wpAnyL_one (i := 13) (by kernel_rfl) rfl (fun Kb hKb => ?_)
  go_simp
  generalize hV : World.setCell (World.setCell Wd _ _) _ _ = V at HG HF ⊢
  obtain ⟨k0, k1, z0, z1, z2, z3, z4⟩ := store_two HG.out hc0 hc1
  have HG2 : Hid _ := z3
  have HF2 : Hid (Fr Wd _ _) := HF.out.trans z4 (fun _ _ h => h)
  refine hKb.out _ _ (fun _ => ⟨k0, k1⟩) ?_
  clear hKb Kb hV y0 y1 y2 z3 z4
  refine wpAnyL_one (i := 14) (by kernel_rfl) rfl (fun Kc hKc => ?_)
  go_simp
  refine hKc.out _ _ (fun _ => ⟨k0, k1⟩) ?_
  clear hKc Kc
  try simp only [Act.put, List.setIfInBounds_toArray, List.set_cons_zero, List.set_cons_succ]
  refine wpAnyL_one (i := 15) (by kernel_rfl) rfl (fun Kd hKd => ?_)
  go_simp
  refine hKd.out _ _ (fun h => absurd h (Bool.eq_false_iff.1 (by kernel_rfl))) ?_
  clear hKd Kd
  refine wpAnyL_done (by kernel_rfl) ?_ _
  generalize hV2 : World.setCell (World.setCell V _ _) _ _ = V2 at HG2 HF2 ⊢
  go_wp2
  go_end0
  exact ⟨rfl, HBd.out.trans HF2.out (fun _ _ h => h)⟩
set_option maxRecDepth 100000 in
set_option maxHeartbeats 4000000 in
theorem down_none {W : World} {h : Value} : Calls Try.prog 75 #[h, .int .i64 0, .int .i64 0] W fun r w' => r = .returned (.bool false) ∧ w' = W := by
  go_enter Try.func75, Try.ntmps75
  go_wp2
  go_loopw [7, 8, 9, 10] (fun i _ _ _ wr => i = .int .i64 0 ∧ wr = W) (fun _ _ _ _ _ => 0)
  case atStart => exact ⟨rfl, rfl⟩
  case round =>
    obtain ⟨rfl, rfl⟩ := hrel
    go_wp2
    go_ret
    exact ⟨rfl, rfl⟩
set_option maxRecDepth 100000 in
set_option maxHeartbeats 4000000 in
theorem up_none {W : World} {h : Value} : Calls Try.prog 76 #[h, .int .i64 0] W fun r w' => r = .returned (.tuple #[]) ∧ w' = W := by
  go_enter Try.func76, Try.ntmps76
  go_wp2
  go_loopw [1, 4] (fun i _ wr => i = .int .i64 0 ∧ wr = W) (fun _ _ _ => 0)
  case atStart => exact ⟨rfl, rfl⟩
  case round =>
    obtain ⟨rfl, rfl⟩ := hrel
    go_wp2
    go_end0
    exact ⟨rfl, rfl⟩
set_option maxRecDepth 100000 in
set_option maxHeartbeats 4000000 in
theorem qpop_one {W : World} {qb g c : Nat} {cs : Array Value} {t : TypeId} {a f : Int} (hq : W.heap[qb]? = some (.cells #[.slice (some ⟨g, 0, none⟩) 1 c] 107 (0, 0))) (hg : W.heap[g]? = some (.cells cs t (0, 0))) (hc0 : cs[0]? = some (.int .i64 a)) (hc1 : cs[1]? = some (.int .i64 f)) (hc : 1 ≤ c) :
    Calls Try.prog 152 #[.pointer (some ⟨qb, 0, none⟩)] W fun r w' => r = .returned (.iface 105 (.agg #[.int .i64 a, .int .i64 f])) ∧ w'.heap[qb]? = some (.cells #[.slice (some ⟨g, 0, none⟩) 0 c] 107 (0, 0)) ∧ Fr W w' (fun k => k = qb) := by
  have b0 := cell_of_one hq
  have b1 : W.frozen? ⟨qb, 0, none⟩ = false := by simp [World.frozen?, hq]
  have h0 : W.cell? ⟨g, 0, none⟩ = some (.int .i64 a) := by simp [World.cell?, hg, hc0]
  have h1 : W.cell? ⟨g, 1, none⟩ = some (.int .i64 f) := by simp [World.cell?, hg, hc1]
  have HQ : Hid _ := hq
  clear hq hg
  go_enter Try.func152, Try.ntmps152
  go_upto_region 3 with (fail)
  generalize hW2 : World.alloc W _ = W2
  have b2 : Below W.heap.size W W2 := by rw [← hW2]; exact one_new _ _
  have q2 : W2.heap[qb]? = some (.cells #[.slice (some ⟨g, 0, none⟩) 1 c] 107 (0, 0)) := (b2.block _ (lt_of_block HQ.out)).trans HQ.out
  have s2 : W2.heap[W.heap.size]? = some (.cells #[.int .i64 a, .int .i64 f] 105 (0, 0)) := by rw [← hW2]; exact heap_alloc_new _ _
  have e0 := cell_of_one q2
  have e1 : W2.frozen? ⟨qb, 0, none⟩ = false := by simp [World.frozen?, q2]
  have hne : qb ≠ W.heap.size := by have := lt_of_block HQ.out; omega
  have HS2 : Hid _ := s2
  have HQ2 : Hid _ := q2
  have HF2 : Hid (Fr W W2 (fun k => k = qb)) := Fr.ofBelow b2 _
  clear hW2 b2 b0 b1 h0 h1 s2 q2
  go_upto_region 4 with (fail)
  generalize hW3 : World.setCell W2 _ _ = W3
  have f3 : Fr W2 W3 (fun k => k = qb) := by rw [← hW3]; exact Fr.setCell _ _ _ rfl
  have q3 : Hid (W3.heap[qb]? = some (.cells #[.slice (some ⟨g, 0, none⟩) 0 c] 107 (0, 0))) := by rw [← hW3]; exact cl_set1 HQ2.out _
  have s3 := (f3.block W.heap.size (lt_of_block HS2.out) (fun e => hne e.symm)).trans HS2.out
  obtain ⟨i0, i1⟩ := box2 s3
  have HF3 : Hid (Fr W W3 (fun k => k = qb)) := HF2.out.trans f3 (fun _ _ h => h)
  clear hW3 f3 s3 e0 e1
  go_wp2
  go_ret
  exact ⟨rfl, q3.out, HF3.out⟩
set_option maxRecDepth 100000 in
set_option maxHeartbeats 4000000 in
theorem hpop_one {W : World} {qb g c : Nat} {cs : Array Value} {t : TypeId} {a f : Int} (hq : W.heap[qb]? = some (.cells #[.slice (some ⟨g, 0, none⟩) 1 c] 107 (0, 0))) (hg : W.heap[g]? = some (.cells cs t (0, 0))) (hc0 : cs[0]? = some (.int .i64 a)) (hc1 : cs[1]? = some (.int .i64 f)) (hc : 1 ≤ c) :
    Calls Try.prog 52 #[.iface 103 (.pointer (some ⟨qb, 0, none⟩))] W fun r w' => r = .returned (.iface 105 (.agg #[.int .i64 a, .int .i64 f])) ∧ w'.heap[qb]? = some (.cells #[.slice (some ⟨g, 0, none⟩) 0 c] 107 (0, 0)) ∧ Fr W w' (fun k => k = qb) := by
  have b0 := cell_of_one hq
  have HQ : Hid _ := hq
  have HG : Hid _ := hg
  clear hq hg
  have L1 := m_len b0
  have L2 := m_swap b0
  go_enter Try.func52, Try.ntmps52
  go_wp2_with (first
    | (go_at_call 51; refine (len_any).mono ?_; rintro r w1 ⟨rfl, rfl⟩)
    | (go_at_call 154; refine (swap_one HG.out hc0 hc1).mono ?_; rintro r w2 ⟨rfl, f2⟩; have hq2 := (f2.block _ (lt_of_block HQ.out) (fun h => h)).trans HQ.out; have hg2 := (f2.block _ (lt_of_block HG.out) (fun h => h)).trans HG.out; have L3 := m_pop (.pointer (some ⟨qb, 0, none⟩)) w2 qb rfl)
    | (go_at_call 75; refine (down_none).mono ?_; rintro r w3 ⟨rfl, rfl⟩)
    | (go_at_call 152; refine (qpop_one hq2 hg2 hc0 hc1 hc).mono ?_; rintro r w4 ⟨rfl, hq4, f4⟩))
  go_ret
  exact ⟨rfl, hq4, (f2.mono (fun _ _ h => h.elim)).trans f4 (fun _ _ h => h)⟩
end Go.Proofs.Ytmpbdaogdahiiaa
end

section
/- container/heap.Push at an empty queue. -/
namespace Go.Proofs.Ytmpbdaogdahiiaa
open Go.RowKit Go.Shelf
attribute [local go_sem] Oper.semAt_some
theorem own_nb {w : World} {base : Nat} {e t : TypeId} {size b : Nat} {v : Value} {n : Nat} {xs : List Value} {cs : Array Value} {f : Nat × Nat} (ho : w.ownsRow base e size v n xs) (hq : w.heap[b]? = some (.cells cs t f)) (hne : e ≠ t) : v.ownBlock ≠ some b := by
  intro hk
  rcases ho.2 with ⟨h2, _⟩ | ⟨g, cap, cur, rfl, _, h4, _⟩
  · subst h2; simp [Value.ownBlock] at hk
  · simp [Value.ownBlock] at hk
    subst hk
    rw [h4] at hq
    injection hq with e1
    injection e1 with _ e2 _
    exact hne e2
theorem ta_stop (x y : Value) (t : TypeId) (w' : World) : (Instr.typeAssert (.iface 105 (.agg #[x, y])) t 105 false).run Try.prog w' = .ok (.agg #[x, y]) w' := by kernel_rfl
theorem infoST : (Try.prog.info? 105).map (fun i => (i.zero, i.size, i.bytes)) = some (some (.agg #[.int .i64 0, .int .i64 0]), 2, 16) := by kernel_rfl
set_option linter.unusedSimpArgs false in
set_option maxRecDepth 100000 in
set_option maxHeartbeats 4000000 in
theorem qpush_none {W : World} {qb base : Nat} {v : Value} {a f : Int} (hq : W.heap[qb]? = some (.cells #[v] 107 (0, 0))) (ho : W.ownsRow base 105 2 v 0 []) (hb : base ≤ W.heap.size) :
    Calls Try.prog 153 #[.pointer (some ⟨qb, 0, none⟩), .iface 105 (.agg #[.int .i64 a, .int .i64 f])] W fun r w' => r = .returned (.tuple #[]) ∧ ∃ v', w'.heap[qb]? = some (.cells #[v'] 107 (0, 0)) ∧ w'.ownsRow base 105 2 v' 1 [.int .i64 a, .int .i64 f] ∧ Fr W w' (fun k => k = qb ∨ v.ownBlock = some k) := by
  obtain ⟨i0, hi, hz0, hz1, hz2⟩ := info_parts infoST
  obtain ⟨p, m, c, rfl⟩ := own_any ho
  obtain ⟨Wd, hWd⟩ : ∃ Wd, W.drew = Wd := ⟨_, rfl⟩
  have HBd : Hid (Fr W Wd (fun k => k = qb ∨ (Value.slice p m c).ownBlock = some k)) := by rw [← hWd]; exact Fr.ofBelow (Below.drew (Below.refl _ W)) _
  have hbd : Below W.heap.size W Wd := by rw [← hWd]; exact Below.drew (Below.refl _ W)
  have HNe : Hid ((Value.slice p m c).ownBlock ≠ some qb) := own_nb ho hq (by decide)
  have hqd := (hbd.block _ (lt_of_block hq)).trans hq
  have HO : Hid (Wd.ownsRow base 105 2 (.slice p m c) 0 []) := so_new ho hbd
  have HQ : Hid _ := hqd
  have b0 := cell_of_one hqd
  have hS0 : (fun w' : World => w'.cell? ⟨qb, 0, none⟩ = some (.slice p m c)) Wd := b0
  have hb : base ≤ Wd.heap.size := Nat.le_trans hb hbd.size
  clear hq ho hqd hbd
  go_enter Try.func153, Try.ntmps153
  go_wp2
  refine wp_calm ?_
  refine wp_region_L [9] (fun w' : World => w'.cell? ⟨qb, 0, none⟩ = some (.slice p m c)) (by kernel_rfl) ?_
  rw [hWd]
  clear hWd
  refine wpAnyL_take (i := 0) 4 (v := .pointer (some ⟨qb, 0, none⟩)) rfl rfl (by kernel_rfl) (by kernel_rfl) (by kernel_rfl) (by kernel_rfl) (by kernel_rfl) (by kernel_rfl) (fun _ _ _ h => h) hS0 (by rfl) (by intro w' hSw; (try dsimp only at hSw); have ta := fun t => ta_stop (.int .i64 a) (.int .i64 f) t w'; go_simp <;> with_reducible rfl) ?_
  simp only [Act.put, List.setIfInBounds_toArray, List.set_cons_zero, List.set_cons_succ]
  refine wpAnyL_take (i := 1) 5 (v := .pointer (some ⟨qb, 0, none⟩)) rfl rfl (by kernel_rfl) (by kernel_rfl) (by kernel_rfl) (by kernel_rfl) (by kernel_rfl) (by kernel_rfl) (fun _ _ _ h => h) hS0 (by rfl) (by intro w' hSw; (try dsimp only at hSw); have ta := fun t => ta_stop (.int .i64 a) (.int .i64 f) t w'; go_simp <;> with_reducible rfl) ?_
  simp only [Act.put, List.setIfInBounds_toArray, List.set_cons_zero, List.set_cons_succ]
  refine wpAnyL_take (i := 2) 6 (v := .pointer (some ⟨qb, 0, none⟩)) rfl rfl (by kernel_rfl) (by kernel_rfl) (by kernel_rfl) (by kernel_rfl) (by kernel_rfl) (by kernel_rfl) (fun _ _ _ h => h) hS0 (by rfl) (by intro w' hSw; (try dsimp only at hSw); have ta := fun t => ta_stop (.int .i64 a) (.int .i64 f) t w'; go_simp <;> with_reducible rfl) ?_
  simp only [Act.put, List.setIfInBounds_toArray, List.set_cons_zero, List.set_cons_succ]
  refine wpAnyL_take (i := 3) 7 (v := .slice p m c) rfl rfl (by kernel_rfl) (by kernel_rfl) (by kernel_rfl) (by kernel_rfl) (by kernel_rfl) (by kernel_rfl) (fun _ _ _ h => h) hS0 (by rfl) (by intro w' hSw; (try dsimp only at hSw); have ta := fun t => ta_stop (.int .i64 a) (.int .i64 f) t w'; go_simp <;> with_reducible rfl) ?_
  simp only [Act.put, List.setIfInBounds_toArray, List.set_cons_zero, List.set_cons_succ]
  refine wpAnyL_take (i := 4) 8 (v := .iface 105 (.agg #[.int .i64 a, .int .i64 f])) rfl rfl (by kernel_rfl) (by kernel_rfl) (by kernel_rfl) (by kernel_rfl) (by kernel_rfl) (by kernel_rfl) (fun _ _ _ h => h) hS0 (by rfl) (by intro w' hSw; (try dsimp only at hSw); have ta := fun t => ta_stop (.int .i64 a) (.int .i64 f) t w'; go_simp <;> with_reducible rfl) ?_
  simp only [Act.put, List.setIfInBounds_toArray, List.set_cons_zero, List.set_cons_succ]
  refine wpAnyL_take (i := 5) 9 (v := .agg #[.int .i64 a, .int .i64 f]) rfl rfl (by kernel_rfl) (by kernel_rfl) (by kernel_rfl) (by kernel_rfl) (by kernel_rfl) (by kernel_rfl) (fun _ _ _ h => h) hS0 (by rfl) (by intro w' hSw; (try dsimp only at hSw); have ta := fun t => ta_stop (.int .i64 a) (.int .i64 f) t w'; go_simp <;> with_reducible rfl) ?_
  simp only [Act.put, List.setIfInBounds_toArray, List.set_cons_zero, List.set_cons_succ]
  refine wpAnyL_one (i := 6) (by kernel_rfl) rfl (fun Ka hKa => ?_)
  go_simp
  have bel0 : Below Wd.heap.size Wd (Wd.alloc (.cells #[.int .i64 a, .int .i64 f] 105)) := one_new _ _
  have hS1 : (fun w' : World => w'.cell? ⟨qb, 0, none⟩ = some (.slice p m c)) (Wd.alloc (.cells #[.int .i64 a, .int .i64 f] 105)) := (bel0.cell (p := ⟨qb, 0, none⟩) (lt_cell b0)).trans b0
  refine hKa.out _ _ (fun _ => hS1) ?_
  clear hKa Ka
  try simp only [Act.put, List.setIfInBounds_toArray, List.set_cons_zero, List.set_cons_succ]
  refine wpAnyL_one (i := 7) (by kernel_rfl) rfl (fun Kb hKb => ?_)
  refine step_append_own rfl (.tmp 7) (.tmp 10) 107 rfl base 105 i0 (.agg #[.int .i64 0, .int .i64 0]) 2 16 Try.underlying107 hi hz0 hz1 hz2 rfl (by decide) (.slice p m c) _ _ (by simp [Act.eval]) (so_new HO.out bel0) ⟨Wd.heap.size, 0, none⟩ 1 1 [.int .i64 a, .int .i64 f] (by simp [Act.eval]) rfl (w_two (heap_alloc_new Wd (.cells #[.int .i64 a, .int .i64 f] 105))) (by intro u hu; simp at hu; rcases hu with rfl | rfl <;> rfl) (by unfold maxLen; omega) (by omega) (Nat.le_trans hb bel0.size) ?_
  intro v1 w1 own1 gr1 at1
  obtain ⟨p1, k1, d1, rfl⟩ := own_any own1
  have f1 : Fr (Wd.alloc (.cells #[.int .i64 a, .int .i64 f] 105)) w1 (fun k => (Value.slice p m c).ownBlock = some k) := Fr.grown gr1 (fun k hk => hk)
  have fu1 : Fr Wd w1 (fun k => (Value.slice p m c).ownBlock = some k) := ((Fr.ofBelow bel0 (fun _ => False)).mono (fun _ _ h => h.elim)).trans f1 (fun _ _ h => h)
  have hn1 : ¬ (Value.slice p m c).ownBlock = some qb := fun e => HNe.out e
  have y1 := fr_cell f1 hn1 hS1
  have q1 : w1.heap[qb]? = _ := (fu1.block qb (lt_cell b0) hn1).trans HQ.out
  have y4 : w1.frozen? ⟨qb, 0, none⟩ = false := by simp [World.frozen?, q1]
  refine hKb.out _ _ (fun _ => y1) ?_
  clear hKb Kb
  try simp only [Act.put, List.setIfInBounds_toArray, List.set_cons_zero, List.set_cons_succ]
  refine wpAnyL_one (i := 8) (by kernel_rfl) rfl (fun Kc hKc => ?_)
  go_simp
  refine hKc.out _ _ (fun _ => y1) ?_
  clear hKc Kc
  try simp only [Act.put, List.setIfInBounds_toArray, List.set_cons_zero, List.set_cons_succ]
  refine wpAnyL_one (i := 9) (by kernel_rfl) rfl (fun Kd hKd => ?_)
  go_simp
  refine hKd.out _ _ (fun h => absurd h (Bool.eq_false_iff.1 (by kernel_rfl))) ?_
  clear hKd Kd
  refine wpAnyL_done (by kernel_rfl) ?_ _
  have HQ9 : Hid ((w1.setCell ⟨qb, 0, none⟩ (.slice p1 k1 d1)).heap[qb]? = some (.cells #[.slice p1 k1 d1] 107 (0, 0))) := cl_set1 q1 _
  have fS : Fr w1 (w1.setCell ⟨qb, 0, none⟩ (.slice p1 k1 d1)) (fun k => k = qb) := Fr.setCell _ _ _ rfl
  have HO9 : Hid ((w1.setCell ⟨qb, 0, none⟩ (.slice p1 k1 d1)).ownsRow base 105 2 (.slice p1 k1 d1) 1 [.int .i64 a, .int .i64 f]) := so_fr own1 fS (fun k hk e => by subst e; exact own_nb own1 q1 (by decide) hk)
  have HF9 : Hid (Fr Wd (w1.setCell ⟨qb, 0, none⟩ (.slice p1 k1 d1)) (fun k => k = qb ∨ (Value.slice p m c).ownBlock = some k)) := (fu1.mono (fun _ _ h => .inr h)).trans fS (fun _ _ h => .inl h)
  generalize hV : World.setCell w1 _ _ = V at HQ9 HO9 HF9 ⊢
  clear hV own1 gr1 at1 f1 fu1 y1 q1 y4 fS hS1 bel0
  go_wp2
  go_end0
  exact ⟨rfl, _, HQ9.out, HO9.out, HBd.out.trans HF9.out (fun _ _ h => h)⟩
set_option maxRecDepth 100000 in
set_option maxHeartbeats 4000000 in
theorem hpush_none {W : World} {qb base : Nat} {v : Value} {a f : Int} (hq : W.heap[qb]? = some (.cells #[v] 107 (0, 0))) (ho : W.ownsRow base 105 2 v 0 []) (hb : base ≤ W.heap.size) :
    Calls Try.prog 55 #[.iface 103 (.pointer (some ⟨qb, 0, none⟩)), .iface 105 (.agg #[.int .i64 a, .int .i64 f])] W fun r w' => r = .returned (.tuple #[]) ∧ ∃ v', w'.heap[qb]? = some (.cells #[v'] 107 (0, 0)) ∧ w'.ownsRow base 105 2 v' 1 [.int .i64 a, .int .i64 f] ∧ Fr W w' (fun k => k = qb ∨ v.ownBlock = some k) := by
  have HQ0 : Hid (W.heap[qb]? = some (.cells #[v] 107 (0, 0))) := hq
  have HO0 : Hid (W.ownsRow base 105 2 v 0 []) := ho
  have L1 := m_push (.pointer (some ⟨qb, 0, none⟩)) W qb rfl
  clear hq ho
  go_enter Try.func55, Try.ntmps55
  go_wp2_with (first
    | (go_at_call 153; (refine (qpush_none HQ0.out HO0.out hb).mono ?_; rintro r w1 ⟨rfl, v', hq1, ho1, f1⟩; obtain ⟨g, cap, cur, rfl, _, _, _⟩ := own_blk ho1 (by decide); have b1 := cell_of_one hq1; have L2 := m_len b1; have HO1 : Hid _ := ho1; have HQ1 : Hid _ := hq1; have HF1 : Hid _ := f1; clear ho1 hq1 f1))
    | (go_at_call 51; refine (len_any).mono ?_; rintro r w2 ⟨rfl, rfl⟩)
    | (go_at_call 76; refine (up_none).mono ?_; rintro r w3 ⟨rfl, rfl⟩))
  go_end0
  exact ⟨rfl, _, HQ1.out, HO1.out, HF1.out⟩
end Go.Proofs.Ytmpbdaogdahiiaa
end

section
/- spec.Far: its regions that draw their order. -/
namespace Go.Proofs.Ytmpbdaogdahiiaa
open Go.RowKit Go.Shelf
attribute [local go_sem] Oper.semAt_some
theorem size_arc : (Try.prog.info? 111).map (·.size) = some 2 := by kernel_rfl
set_option maxRecDepth 100000 in
set_option maxHeartbeats 2000000 in
theorem length_any {W : World} {t y : Int} : Calls Try.prog 54 #[.agg #[.int .i64 t, .int .i64 y], .bool false] W fun r w' => r = .returned (.int .i64 y) ∧ Below W.heap.size W w' := by
  go_enter Try.func54, Try.ntmps54
  go_wp2
  go_ret
  exact ⟨rfl, one_new _ _⟩
set_option maxRecDepth 100000 in
set_option maxHeartbeats 2000000 in
theorem add_small {W : World} {a b : Int} (ha : 0 ≤ a ∧ a ≤ 100) (hb : 0 ≤ b ∧ b ≤ 100) : Calls Try.prog 53 #[.int .i64 a, .int .i64 b] W fun r w' => r = .returned (.tuple #[.int .i64 (a + b), .int .i64 0]) ∧ w' = W := by
  have h1 : wrap64 (a + b) = a + b := by unfold wrap64; omega
  have h2 : wrap64 (9223372036854775807 - b) = 9223372036854775807 - b := by unfold wrap64; omega
  have h3 : ¬ (a > 9223372036854775807 - b) := by omega
  have h4 : ¬ b < 0 := by omega
  go_enter Try.func53, Try.ntmps53
  by_cases h5 : b > 0
  all_goals
    go_wp2
    go_ret2
    exact ⟨rfl, rfl⟩
set_option maxRecDepth 100000 in
set_option maxHeartbeats 1000000 in
theorem far_r19 {W0 : World} {A : Act} {sb ab : Nat} {d ta ya : Int} {K : Act → World → Prop} {Q' : Exit → Act → World → Prop} (hsz : A.tmps.size = 108) (hA15 : A.eval (.tmp 15) = .pointer (some ⟨sb, 0, none⟩)) (hA17 : A.eval (.tmp 17) = .pointer (some ⟨ab, 0, none⟩)) (hA2 : A.eval (.tmp 2) = .bool false) (hs1 : W0.cell? ⟨sb, 1, none⟩ = some (.int .i64 d)) (hab : W0.heap[ab]? = some (.cells #[.int .i64 ta, .int .i64 ya] 111 (0, 0))) (hdd : 0 ≤ d ∧ d ≤ 100) (hyy : 0 ≤ ya ∧ ya ≤ 100)
    (HK : ∀ X W, Below W0.heap.size W0 W → X 18 = .int .i64 (d + ya) ∧ X 19 = .int .i64 0 → K (puts A X [87, 88, 89, 90, 91, 92, 86, 93, 94, 18, 19]) W) :
    Code.wp Try.prog ((Try.f30.body.bind (regionJ 19)).getD .skip) (Exit.then K Q') A W0 := by
  obtain ⟨ds, hds⟩ : ∃ ds, [87, 88, 89, 90, 91, 92, 86, 93, 94, 18, 19] = ds := ⟨_, rfl⟩
  have hin : ∀ {X : Nat → Value} {k : Nat}, k ∈ [87, 88, 89, 90, 91, 92, 86, 93, 94, 18, 19] → (puts A X ds).eval (.tmp k) = X k := fun hk => by rw [← hds]; exact eval_in hk (by rw [hsz]; revert hk; simp only [List.mem_cons, List.not_mem_nil, or_false]; omega)
  have hout : ∀ {X : Nat → Value} {k : Nat}, k ∉ [87, 88, 89, 90, 91, 92, 86, 93, 94, 18, 19] → (puts A X ds).eval (.tmp k) = A.eval (.tmp k) := fun hk => by rw [← hds]; exact eval_out hk
  have g0 : ds.getD 0 0 = 87 := by rw [← hds]; rfl
  have g1 : ds.getD 1 0 = 88 := by rw [← hds]; rfl
  have g2 : ds.getD 2 0 = 89 := by rw [← hds]; rfl
  have g3 : ds.getD 3 0 = 90 := by rw [← hds]; rfl
  have g4 : ds.getD 4 0 = 91 := by rw [← hds]; rfl
  have g5 : ds.getD 5 0 = 92 := by rw [← hds]; rfl
  have g6 : ds.getD 6 0 = 86 := by rw [← hds]; rfl
  have g7 : ds.getD 7 0 = 93 := by rw [← hds]; rfl
  have g8 : ds.getD 8 0 = 94 := by rw [← hds]; rfl
  have g9 : ds.getD 9 0 = 18 := by rw [← hds]; rfl
  have g10 : ds.getD 10 0 = 19 := by rw [← hds]; rfl
  obtain ⟨V, hV, e0, e1, e2, e3, e4, e5, e6, e7, e8, e9, e10⟩ : ∃ V : Nat → Value → World → Prop, (∀ i v W W', V i v W → Below W.heap.size W W' → V i v W') ∧ (∀ v W, V 0 v W = (v = .pointer (some ⟨sb, 1, none⟩))) ∧ (∀ v W, V 1 v W = (v = .int .i64 d)) ∧ (∀ v W, V 2 v W = (v = .agg #[.int .i64 ta, .int .i64 ya])) ∧ (∀ v W, V 3 v W = (v = .bool false)) ∧ (∀ v W, V 4 v W = (v = .int .i64 ya)) ∧ (∀ v W, V 5 v W = (v = .tuple #[.int .i64 (d + ya), .int .i64 0])) ∧ (∀ v W, V 6 v W = (v = .tuple #[.int .i64 (d + ya), .int .i64 0])) ∧ (∀ v W, V 7 v W = (v = .int .i64 (d + ya))) ∧ (∀ v W, V 8 v W = (v = .int .i64 0)) ∧ (∀ v W, V 9 v W = (v = .int .i64 (d + ya))) ∧ (∀ v W, V 10 v W = (v = .int .i64 0)) := by
    refine ⟨fun i v W => match i with
      | 0 => v = .pointer (some ⟨sb, 1, none⟩)
      | 1 => v = .int .i64 d
      | 2 => v = .agg #[.int .i64 ta, .int .i64 ya]
      | 3 => v = .bool false
      | 4 => v = .int .i64 ya
      | 5 => v = .tuple #[.int .i64 (d + ya), .int .i64 0]
      | 6 => v = .tuple #[.int .i64 (d + ya), .int .i64 0]
      | 7 => v = .int .i64 (d + ya)
      | 8 => v = .int .i64 0
      | 9 => v = .int .i64 (d + ya)
      | 10 => v = .int .i64 0
      | _ => True, ?_, fun _ _ => rfl, fun _ _ => rfl, fun _ _ => rfl, fun _ _ => rfl, fun _ _ => rfl, fun _ _ => rfl, fun _ _ => rfl, fun _ _ => rfl, fun _ _ => rfl, fun _ _ => rfl, fun _ _ => rfl⟩
    intro i v W W' h hb
    match i, h with
    | 0, h => exact h
    | 1, h => exact h
    | 2, h => exact h
    | 3, h => exact h
    | 4, h => exact h
    | 5, h => exact h
    | 6, h => exact h
    | 7, h => exact h
    | 8, h => exact h
    | 9, h => exact h
    | 10, h => exact h
    | _ + 11, _ => trivial
  conv => arg 2; whnf
  refine wp_region_V ds V (by kernel_rfl) (by kernel_rfl) (by rw [← hds]; kernel_rfl) hV ?_ ?_
  · refine ⟨?_, ?_, ?_, ?_, ?_, ?_, ?_, ?_, ?_, ?_, ?_, trivial⟩
    all_goals intro X W hb hd
    · have h0 := hout (X := X) (k := 15) (by decide)
      rw [hA15] at h0
      refine v_value (V := V 0) (v := .pointer (some ⟨sb, 1, none⟩)) ?_ (by rw [e0])
      generalize (puts A X ds).eval = ρ at h0 ⊢
      go_simp
    · have d0 := hd 0 (by kernel_rfl)
      rw [e0, g0] at d0
      have h0 := (hin (X := X) (k := 87) (by decide)).trans d0
      have cs1 := (hb.cell (p := ⟨sb, 1, none⟩) (lt_cell hs1)).trans hs1
      refine v_value (V := V 1) (v := .int .i64 d) ?_ (by rw [e1])
      generalize (puts A X ds).eval = ρ at h0 ⊢
      go_simp
    · have h0 := hout (X := X) (k := 17) (by decide)
      rw [hA17] at h0
      exact wp_load_row 111 _ rfl ab h0 111 #[.int .i64 ta, .int .i64 ya] (0, 0) _ ((hb.block _ (lt_of_block hab)).trans hab) Try.underlying111 rfl size_arc ⟨_, rfl, by rw [e2], Below.refl _ _⟩
    · have h0 := hout (X := X) (k := 2) (by decide)
      rw [hA2] at h0
      refine v_value (V := V 3) (v := .bool false) ?_ (by rw [e3])
      generalize (puts A X ds).eval = ρ at h0 ⊢
      go_simp
    · have d0 := hd 2 (by kernel_rfl)
      rw [e2, g2] at d0
      have h0 := (hin (X := X) (k := 89) (by decide)).trans d0
      have d1 := hd 3 (by kernel_rfl)
      rw [e3, g3] at d1
      have h1 := (hin (X := X) (k := 90) (by decide)).trans d1
      have hf : (puts A X ds).eval (.func 54) = .func (.func 54) #[] #[] := rfl
      refine v_call (V := V 4) (f := 54) (vs := #[.agg #[.int .i64 ta, .int .i64 ya], .bool false]) ?_ ?_
      · generalize (puts A X ds).eval = ρ at h0 h1 hf ⊢
        go_simp
      · refine (length_any).mono ?_
        rintro r W' ⟨rfl, hb'⟩
        exact ⟨_, rfl, by rw [e4], hb'⟩
    · have d0 := hd 1 (by kernel_rfl)
      rw [e1, g1] at d0
      have h0 := (hin (X := X) (k := 88) (by decide)).trans d0
      have d1 := hd 4 (by kernel_rfl)
      rw [e4, g4] at d1
      have h1 := (hin (X := X) (k := 91) (by decide)).trans d1
      have hf : (puts A X ds).eval (.func 53) = .func (.func 53) #[] #[] := rfl
      refine v_call (V := V 5) (f := 53) (vs := #[.int .i64 d, .int .i64 ya]) ?_ ?_
      · generalize (puts A X ds).eval = ρ at h0 h1 hf ⊢
        go_simp
      · refine (add_small hdd hyy).mono ?_
        rintro r W' ⟨rfl, rfl⟩
        exact ⟨_, rfl, by rw [e5], Below.refl _ _⟩
    · have d0 := hd 5 (by kernel_rfl)
      rw [e5, g5] at d0
      have h0 := (hin (X := X) (k := 92) (by decide)).trans d0
      refine v_value (V := V 6) (v := .tuple #[.int .i64 (d + ya), .int .i64 0]) ?_ (by rw [e6])
      generalize (puts A X ds).eval = ρ at h0 ⊢
      go_simp
    · have d0 := hd 6 (by kernel_rfl)
      rw [e6, g6] at d0
      have h0 := (hin (X := X) (k := 86) (by decide)).trans d0
      refine v_value (V := V 7) (v := .int .i64 (d + ya)) ?_ (by rw [e7])
      generalize (puts A X ds).eval = ρ at h0 ⊢
      go_simp
    · have d0 := hd 6 (by kernel_rfl)
      rw [e6, g6] at d0
      have h0 := (hin (X := X) (k := 86) (by decide)).trans d0
      refine v_value (V := V 8) (v := .int .i64 0) ?_ (by rw [e8])
      generalize (puts A X ds).eval = ρ at h0 ⊢
      go_simp
    · have d0 := hd 7 (by kernel_rfl)
      rw [e7, g7] at d0
      have h0 := (hin (X := X) (k := 93) (by decide)).trans d0
      refine v_value (V := V 9) (v := .int .i64 (d + ya)) ?_ (by rw [e9])
      generalize (puts A X ds).eval = ρ at h0 ⊢
      go_simp
    · have d0 := hd 8 (by kernel_rfl)
      rw [e8, g8] at d0
      have h0 := (hin (X := X) (k := 94) (by decide)).trans d0
      refine v_value (V := V 10) (v := .int .i64 0) ?_ (by rw [e10])
      generalize (puts A X ds).eval = ρ at h0 ⊢
      go_simp
  · intro X W hb hall
    have r0 := hall 0 (by decide)
    rw [e0, g0] at r0
    have r1 := hall 1 (by decide)
    rw [e1, g1] at r1
    have r2 := hall 2 (by decide)
    rw [e2, g2] at r2
    have r3 := hall 3 (by decide)
    rw [e3, g3] at r3
    have r4 := hall 4 (by decide)
    rw [e4, g4] at r4
    have r5 := hall 5 (by decide)
    rw [e5, g5] at r5
    have r6 := hall 6 (by decide)
    rw [e6, g6] at r6
    have r7 := hall 7 (by decide)
    rw [e7, g7] at r7
    have r8 := hall 8 (by decide)
    rw [e8, g8] at r8
    have r9 := hall 9 (by decide)
    rw [e9, g9] at r9
    have r10 := hall 10 (by decide)
    rw [e10, g10] at r10
    have := HK X W hb (by first | assumption | exact ⟨by assumption, by assumption⟩ | exact ⟨by assumption, by assumption, by assumption⟩ | simp_all)
    rw [hds] at this
    exact this
set_option maxRecDepth 100000 in
set_option maxHeartbeats 1000000 in
theorem far_r5 {W0 : World} {A : Act} {wb gi n ci : Nat} {K : Act → World → Prop} {Q' : Exit → Act → World → Prop} (hsz : A.tmps.size = 108) (hA8 : A.eval (.tmp 8) = .pointer (some ⟨wb, 0, none⟩)) (hcw : W0.cell? ⟨wb, 0, none⟩ = some (.slice (some ⟨gi, 0, none⟩) n ci)) (hm1 : ∀ W : World, (Instr.makeSlice 36 (.int .i64 (n : Int)) (.int .i64 (n : Int))).run Try.prog W = .ok (.slice (some ⟨W.heap.size, 0, none⟩) n n) (W.alloc (.cells (madeCells #[.int .i64 0] n) 2))) (hm2 : ∀ W : World, (Instr.makeSlice 78 (.int .i64 (n : Int)) (.int .i64 (n : Int))).run Try.prog W = .ok (.slice (some ⟨W.heap.size, 0, none⟩) n n) (W.alloc (.cells (madeCells #[.bool false] n) 4)))
    (HK : ∀ X W, Below W0.heap.size W0 W → (∃ g, X 11 = .slice (some ⟨g, 0, none⟩) n n ∧ W.heap[g]? = some (.cells (madeCells #[.int .i64 0] n) 2 (0, 0)) ∧ W0.heap.size ≤ g) ∧ (∃ g, X 12 = .slice (some ⟨g, 0, none⟩) n n ∧ W.heap[g]? = some (.cells (madeCells #[.bool false] n) 4 (0, 0)) ∧ W0.heap.size ≤ g) → K (puts A X [30, 31, 32, 33, 34, 35, 36, 37, 11, 12]) W) :
    Code.wp Try.prog ((Try.f30.body.bind (regionJ 5)).getD .skip) (Exit.then K Q') A W0 := by
  obtain ⟨ds, hds⟩ : ∃ ds, [30, 31, 32, 33, 34, 35, 36, 37, 11, 12] = ds := ⟨_, rfl⟩
  have hin : ∀ {X : Nat → Value} {k : Nat}, k ∈ [30, 31, 32, 33, 34, 35, 36, 37, 11, 12] → (puts A X ds).eval (.tmp k) = X k := fun hk => by rw [← hds]; exact eval_in hk (by rw [hsz]; revert hk; simp only [List.mem_cons, List.not_mem_nil, or_false]; omega)
  have hout : ∀ {X : Nat → Value} {k : Nat}, k ∉ [30, 31, 32, 33, 34, 35, 36, 37, 11, 12] → (puts A X ds).eval (.tmp k) = A.eval (.tmp k) := fun hk => by rw [← hds]; exact eval_out hk
  have g0 : ds.getD 0 0 = 30 := by rw [← hds]; rfl
  have g1 : ds.getD 1 0 = 31 := by rw [← hds]; rfl
  have g2 : ds.getD 2 0 = 32 := by rw [← hds]; rfl
  have g3 : ds.getD 3 0 = 33 := by rw [← hds]; rfl
  have g4 : ds.getD 4 0 = 34 := by rw [← hds]; rfl
  have g5 : ds.getD 5 0 = 35 := by rw [← hds]; rfl
  have g6 : ds.getD 6 0 = 36 := by rw [← hds]; rfl
  have g7 : ds.getD 7 0 = 37 := by rw [← hds]; rfl
  have g8 : ds.getD 8 0 = 11 := by rw [← hds]; rfl
  have g9 : ds.getD 9 0 = 12 := by rw [← hds]; rfl
  obtain ⟨V, hV, e0, e1, e2, e3, e4, e5, e6, e7, e8, e9⟩ : ∃ V : Nat → Value → World → Prop, (∀ i v W W', V i v W → Below W.heap.size W W' → V i v W') ∧ (∀ v W, V 0 v W = (v = .pointer (some ⟨wb, 0, none⟩))) ∧ (∀ v W, V 1 v W = (v = .slice (some ⟨gi, 0, none⟩) n ci)) ∧ (∀ v W, V 2 v W = (v = .int .i64 (n : Int))) ∧ (∀ v W, V 3 v W = (∃ g, v = .slice (some ⟨g, 0, none⟩) n n ∧ W.heap[g]? = some (.cells (madeCells #[.int .i64 0] n) 2 (0, 0)) ∧ W0.heap.size ≤ g)) ∧ (∀ v W, V 4 v W = (v = .pointer (some ⟨wb, 0, none⟩))) ∧ (∀ v W, V 5 v W = (v = .slice (some ⟨gi, 0, none⟩) n ci)) ∧ (∀ v W, V 6 v W = (v = .int .i64 (n : Int))) ∧ (∀ v W, V 7 v W = (∃ g, v = .slice (some ⟨g, 0, none⟩) n n ∧ W.heap[g]? = some (.cells (madeCells #[.bool false] n) 4 (0, 0)) ∧ W0.heap.size ≤ g)) ∧ (∀ v W, V 8 v W = (∃ g, v = .slice (some ⟨g, 0, none⟩) n n ∧ W.heap[g]? = some (.cells (madeCells #[.int .i64 0] n) 2 (0, 0)) ∧ W0.heap.size ≤ g)) ∧ (∀ v W, V 9 v W = (∃ g, v = .slice (some ⟨g, 0, none⟩) n n ∧ W.heap[g]? = some (.cells (madeCells #[.bool false] n) 4 (0, 0)) ∧ W0.heap.size ≤ g)) := by
    refine ⟨fun i v W => match i with
      | 0 => v = .pointer (some ⟨wb, 0, none⟩)
      | 1 => v = .slice (some ⟨gi, 0, none⟩) n ci
      | 2 => v = .int .i64 (n : Int)
      | 3 => ∃ g, v = .slice (some ⟨g, 0, none⟩) n n ∧ W.heap[g]? = some (.cells (madeCells #[.int .i64 0] n) 2 (0, 0)) ∧ W0.heap.size ≤ g
      | 4 => v = .pointer (some ⟨wb, 0, none⟩)
      | 5 => v = .slice (some ⟨gi, 0, none⟩) n ci
      | 6 => v = .int .i64 (n : Int)
      | 7 => ∃ g, v = .slice (some ⟨g, 0, none⟩) n n ∧ W.heap[g]? = some (.cells (madeCells #[.bool false] n) 4 (0, 0)) ∧ W0.heap.size ≤ g
      | 8 => ∃ g, v = .slice (some ⟨g, 0, none⟩) n n ∧ W.heap[g]? = some (.cells (madeCells #[.int .i64 0] n) 2 (0, 0)) ∧ W0.heap.size ≤ g
      | 9 => ∃ g, v = .slice (some ⟨g, 0, none⟩) n n ∧ W.heap[g]? = some (.cells (madeCells #[.bool false] n) 4 (0, 0)) ∧ W0.heap.size ≤ g
      | _ => True, ?_, fun _ _ => rfl, fun _ _ => rfl, fun _ _ => rfl, fun _ _ => rfl, fun _ _ => rfl, fun _ _ => rfl, fun _ _ => rfl, fun _ _ => rfl, fun _ _ => rfl, fun _ _ => rfl⟩
    intro i v W W' h hb
    match i, h with
    | 0, h => exact h
    | 1, h => exact h
    | 2, h => exact h
    | 3, h => exact (by obtain ⟨g, h1, h2, h3⟩ := h; exact ⟨g, h1, (hb.block _ (Array.getElem?_eq_some_iff.1 h2).1).trans h2, h3⟩)
    | 4, h => exact h
    | 5, h => exact h
    | 6, h => exact h
    | 7, h => exact (by obtain ⟨g, h1, h2, h3⟩ := h; exact ⟨g, h1, (hb.block _ (Array.getElem?_eq_some_iff.1 h2).1).trans h2, h3⟩)
    | 8, h => exact (by obtain ⟨g, h1, h2, h3⟩ := h; exact ⟨g, h1, (hb.block _ (Array.getElem?_eq_some_iff.1 h2).1).trans h2, h3⟩)
    | 9, h => exact (by obtain ⟨g, h1, h2, h3⟩ := h; exact ⟨g, h1, (hb.block _ (Array.getElem?_eq_some_iff.1 h2).1).trans h2, h3⟩)
    | _ + 10, _ => trivial
  conv => arg 2; whnf
  refine wp_region_V ds V (by kernel_rfl) (by kernel_rfl) (by rw [← hds]; kernel_rfl) hV ?_ ?_
  · refine ⟨?_, ?_, ?_, ?_, ?_, ?_, ?_, ?_, ?_, ?_, trivial⟩
    all_goals intro X W hb hd
    · have h0 := hout (X := X) (k := 8) (by decide)
      rw [hA8] at h0
      refine v_value (V := V 0) (v := .pointer (some ⟨wb, 0, none⟩)) ?_ (by rw [e0])
      generalize (puts A X ds).eval = ρ at h0 ⊢
      go_simp
    · have d0 := hd 0 (by kernel_rfl)
      rw [e0, g0] at d0
      have h0 := (hin (X := X) (k := 30) (by decide)).trans d0
      have cw := (hb.cell (p := ⟨wb, 0, none⟩) (lt_cell hcw)).trans hcw
      refine v_value (V := V 1) (v := .slice (some ⟨gi, 0, none⟩) n ci) ?_ (by rw [e1])
      generalize (puts A X ds).eval = ρ at h0 ⊢
      go_simp
    · have d0 := hd 1 (by kernel_rfl)
      rw [e1, g1] at d0
      have h0 := (hin (X := X) (k := 31) (by decide)).trans d0
      refine v_value (V := V 2) (v := .int .i64 (n : Int)) ?_ (by rw [e2])
      generalize (puts A X ds).eval = ρ at h0 ⊢
      go_simp
    · have d0 := hd 2 (by kernel_rfl)
      rw [e2, g2] at d0
      have h0 := (hin (X := X) (k := 32) (by decide)).trans d0
      refine v_new (V := V 3) (v := .slice (some ⟨W.heap.size, 0, none⟩) n n) (w' := W.alloc (.cells (madeCells #[.int .i64 0] n) 2)) ?_ (by rw [e3]; exact ⟨_, rfl, heap_alloc_new _ _, hb.size⟩) (one_new _ _)
      have hmm := hm1 W
      generalize (puts A X ds).eval = ρ at h0 ⊢
      go_simp
    · have h0 := hout (X := X) (k := 8) (by decide)
      rw [hA8] at h0
      refine v_value (V := V 4) (v := .pointer (some ⟨wb, 0, none⟩)) ?_ (by rw [e4])
      generalize (puts A X ds).eval = ρ at h0 ⊢
      go_simp
    · have d0 := hd 4 (by kernel_rfl)
      rw [e4, g4] at d0
      have h0 := (hin (X := X) (k := 34) (by decide)).trans d0
      have cw := (hb.cell (p := ⟨wb, 0, none⟩) (lt_cell hcw)).trans hcw
      refine v_value (V := V 5) (v := .slice (some ⟨gi, 0, none⟩) n ci) ?_ (by rw [e5])
      generalize (puts A X ds).eval = ρ at h0 ⊢
      go_simp
    · have d0 := hd 5 (by kernel_rfl)
      rw [e5, g5] at d0
      have h0 := (hin (X := X) (k := 35) (by decide)).trans d0
      refine v_value (V := V 6) (v := .int .i64 (n : Int)) ?_ (by rw [e6])
      generalize (puts A X ds).eval = ρ at h0 ⊢
      go_simp
    · have d0 := hd 6 (by kernel_rfl)
      rw [e6, g6] at d0
      have h0 := (hin (X := X) (k := 36) (by decide)).trans d0
      refine v_new (V := V 7) (v := .slice (some ⟨W.heap.size, 0, none⟩) n n) (w' := W.alloc (.cells (madeCells #[.bool false] n) 4)) ?_ (by rw [e7]; exact ⟨_, rfl, heap_alloc_new _ _, hb.size⟩) (one_new _ _)
      have hmm := hm2 W
      generalize (puts A X ds).eval = ρ at h0 ⊢
      go_simp
    · have d0 := hd 3 (by kernel_rfl)
      rw [e3, g3] at d0
      obtain ⟨g, d0, p0⟩ := d0
      have h0 := (hin (X := X) (k := 33) (by decide)).trans d0
      refine v_value (V := V 8) (v := .slice (some ⟨g, 0, none⟩) n n) ?_ (by rw [e8]; exact ⟨g, rfl, p0⟩)
      generalize (puts A X ds).eval = ρ at h0 ⊢
      go_simp
    · have d0 := hd 7 (by kernel_rfl)
      rw [e7, g7] at d0
      obtain ⟨g, d0, p0⟩ := d0
      have h0 := (hin (X := X) (k := 37) (by decide)).trans d0
      refine v_value (V := V 9) (v := .slice (some ⟨g, 0, none⟩) n n) ?_ (by rw [e9]; exact ⟨g, rfl, p0⟩)
      generalize (puts A X ds).eval = ρ at h0 ⊢
      go_simp
  · intro X W hb hall
    have r0 := hall 0 (by decide)
    rw [e0, g0] at r0
    have r1 := hall 1 (by decide)
    rw [e1, g1] at r1
    have r2 := hall 2 (by decide)
    rw [e2, g2] at r2
    have r3 := hall 3 (by decide)
    rw [e3, g3] at r3
    have r4 := hall 4 (by decide)
    rw [e4, g4] at r4
    have r5 := hall 5 (by decide)
    rw [e5, g5] at r5
    have r6 := hall 6 (by decide)
    rw [e6, g6] at r6
    have r7 := hall 7 (by decide)
    rw [e7, g7] at r7
    have r8 := hall 8 (by decide)
    rw [e8, g8] at r8
    have r9 := hall 9 (by decide)
    rw [e9, g9] at r9
    have := HK X W hb (by first | assumption | exact ⟨by assumption, by assumption⟩ | exact ⟨by assumption, by assumption, by assumption⟩ | simp_all)
    rw [hds] at this
    exact this
end Go.Proofs.Ytmpbdaogdahiiaa
end
