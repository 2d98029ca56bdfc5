/- The document's Combine. -/
import Derived.Test.YtfajkfngjfhkoaaCbComb
namespace Go.Proofs.Ytfajkfngjfhkoaa
open Go.RowKit
set_option maxRecDepth 100000 in
set_option maxHeartbeats 2000000 in
theorem rcomb_fold {w : World} {P : Nat → Prop} {b off cap : Nat} {k : Int} (hk : k ≠ 0) (m : Msg) (l : List Msg) (h : MsAt w P (some ⟨b, off, none⟩) (m :: l)) (hok : ∀ x ∈ m :: l, x.ok) (hl : (m :: l).length ≤ 8796093022208) :
    Calls Try.prog 39 #[.int .i64 k, .slice (some ⟨b, off, none⟩) (m :: l).length cap] w fun r w' => CombR w' r (combO k (m :: l)) ∧ Below w.heap.size w w' := by
  have bk : (k == 0) = false := by simpa using hk
  obtain ⟨b', off', e, hP, hc⟩ := h (by simp)
  cases e
  obtain ⟨e0, e1, e2, e3⟩ := hc 0 (by simp)
  simp only [Nat.zero_mul, Nat.add_zero, List.getElem_cons_zero] at e0 e1 e2 e3
  have okm := hok m (by simp)
  have HC : Hid (∀ j (h : j < l.length), w.cell? ⟨b, off + (j + 1) * 4 + 3, none⟩ = some (.int .i64 l[j].v)) := fun j hj => (hc (j + 1) (by simpa using hj)).2.2.2
  have HO : Hid (∀ x ∈ l, x.ok) := fun x hx => hok x (by simp [hx])
  have hlen : (m :: l).length = l.length + 1 := rfl
  have hblt := lt_cell e0
  rw [hlen] at hl ⊢
  have bl : ((l.length : Int) + 1 == 0) = false := by simp; omega
  clear hc h hok hlen
  go_enter Try.func39, Try.ntmps39
  go_upto_region 5 with (fail)
  have h1 := heap_alloc_new w (.cells #[.int .i64 m.f, .int .i64 m.t, .int .i64 m.a, .int .i64 m.v] 66)
  have h2 : Below w.heap.size w (w.alloc (.cells #[.int .i64 m.f, .int .i64 m.t, .int .i64 m.a, .int .i64 m.v] 66)) := (Below.refl _ w).alloc (Nat.le_refl _) _
  go_loopw [4, 5, 7, 8, 9, 10] (fun _ _ i _ _ _ wr => ∃ (j : Nat) (x : Int), j ≤ l.length ∧ i = .int .i64 (j + 1) ∧ Hid (foldM k m.v (l.take j) = some x) ∧ I64 x ∧ wr.heap[w.heap.size]? = some (.cells #[.int .i64 m.f, .int .i64 m.t, .int .i64 m.a, .int .i64 x] 66 (0, 0)) ∧ Below w.heap.size w wr) (fun _ _ i _ _ _ _ => l.length + 1 - (intOf i).toNat)
  case atStart => exact ⟨0, m.v, Nat.zero_le _, rfl, rfl, okm.v, h1, h2⟩
  case round =>
    obtain ⟨j, x, hj, rfl, hf, hx, hq, hb⟩ := hrel
    clear h1 h2
    by_cases hlt : j < l.length
    · have f3 := HC.out j hlt
      have d3 := (hb.cell (p := ⟨b, off + (j + 1) * 4 + 3, none⟩) hblt).trans f3
      have oky := HO.out _ (List.getElem_mem hlt)
      have HS : Hid _ := foldM_step hlt hf.out
      generalize l[j] = y at d3 oky HS
      have okv := oky.v
      generalize y.v = yv at d3 okv HS
      have HQ : Hid _ := hq
      have HB : Hid _ := hb
      obtain ⟨_, _, _, k3⟩ := m_cells hq
      have k4 := m_froz (o := 3) hq
      clear hq hb f3 e0 e1 e2 e3 hf oky
      by_cases h2 : k = 2
      · subst h2
        have hE : jnE 2 x yv = false := by simp [jnE]
        have HN : Hid (foldM 2 m.v (l.take (j + 1)) = some (jn 2 x yv)) := HS.out.1 hE
        have hI := jnE_false hE hx okv
        clear HS
        by_cases hc : yv < x
        · rw [show jn 2 x yv = yv by simp [jn, hc]] at HN hI
          go_wp2
          go_roundw
          case rel =>
            refine ⟨j + 1, yv, by omega, by go_num, HN.out, hI, set4_3 HQ.out _, ?_⟩
            exact HB.out.trans ((Fr.setCell (S := fun k => k = w.heap.size) wr ⟨w.heap.size, 3, none⟩ (.int .i64 yv) rfl).below HB.out.size (fun k hk => by omega))
          case measure => simp [intOf]; omega
        · rw [show jn 2 x yv = x by simp [jn, hc]] at HN hI
          go_wp2
          go_roundw
          case rel =>
            exact ⟨j + 1, x, by omega, by go_num, HN.out, hI, HQ.out, HB.out⟩
          case measure => simp [intOf]; omega
      · have c2 : (k == 2) = false := by simpa using h2
        by_cases h3 : k = 3
        · subst h3
          have hE : jnE 3 x yv = false := by simp [jnE]
          have HN : Hid (foldM 3 m.v (l.take (j + 1)) = some (jn 3 x yv)) := HS.out.1 hE
          have hI := jnE_false hE hx okv
          clear HS
          by_cases hc : x < yv
          · rw [show jn 3 x yv = yv by simp [jn, hc]] at HN hI
            go_wp2
            go_roundw
            case rel =>
              refine ⟨j + 1, yv, by omega, by go_num, HN.out, hI, set4_3 HQ.out _, ?_⟩
              exact HB.out.trans ((Fr.setCell (S := fun k => k = w.heap.size) wr ⟨w.heap.size, 3, none⟩ (.int .i64 yv) rfl).below HB.out.size (fun k hk => by omega))
            case measure => simp [intOf]; omega
          · rw [show jn 3 x yv = x by simp [jn, hc]] at HN hI
            go_wp2
            go_roundw
            case rel =>
              exact ⟨j + 1, x, by omega, by go_num, HN.out, hI, HQ.out, HB.out⟩
            case measure => simp [intOf]; omega
        · have c3 : (k == 3) = false := by simpa using h3
          have HXX : Hid _ := hx
          have HY : Hid _ := okv
          by_cases hr : -9223372036854775808 ≤ x + yv ∧ x + yv ≤ 9223372036854775807
          · have hE : jnE k x yv = false := by simp [jnE, h2, h3, hr]
            have HN : Hid (foldM k m.v (l.take (j + 1)) = some (jn k x yv)) := HS.out.1 hE
            have hI := jnE_false hE hx okv
            rw [show jn k x yv = x + yv by simp [jn, h2, h3]] at HN hI
            have HJ : Hid (∀ W, Calls Try.prog 67 #[.int .i64 x, .int .i64 yv] W fun e w' => e = .returned (.tuple #[.int .i64 (x + yv), .int .i64 0]) ∧ w' = W) := fun W => by
              have := refadd_any x yv W hx.1 hx.2 okv.1 okv.2
              rw [← ans_in hr] at this
              exact this
            clear HS hE hr hx okv HXX HY
            generalize x + yv = z at HN hI HJ
            go_wp2_with (go_at_call 67; refine (HJ.out _).mono ?_; rintro e w1 ⟨rfl, rfl⟩)
            go_roundw
            case rel =>
              refine ⟨j + 1, z, by omega, by go_num, HN.out, hI, set4_3 HQ.out _, ?_⟩
              exact HB.out.trans ((Fr.setCell (S := fun k => k = w.heap.size) _ ⟨w.heap.size, 3, none⟩ (.int .i64 z) rfl).below HB.out.size (fun k hk => Nat.le_of_eq hk.symm))
            case measure => simp [intOf]; omega
          · have hE : jnE k x yv = true := by simp [jnE, h2, h3]; omega
            have HN : Hid (combO k (m :: l) = none) := by
              show combO k (m :: l) = none
              simp [combO, hk, HS.out.2 hE]
            have HJ : Hid (∀ W, Calls Try.prog 67 #[.int .i64 x, .int .i64 yv] W fun e w' => e = .returned (.tuple #[.int .i64 0, .int .i64 20]) ∧ w' = W) := fun W => by
              have := refadd_any x yv W hx.1 hx.2 okv.1 okv.2
              rw [← ans_out hr] at this
              exact this
            clear HS hE hr hx okv HXX HY
            go_wp2_with (go_at_call 67; refine (HJ.out _).mono ?_; rintro e w1 ⟨rfl, rfl⟩)
            go_ret2
            exact ⟨by rw [HN.out]; rfl, HB.out⟩
    · obtain rfl : j = l.length := by omega
      rw [List.take_length] at hf
      have HN : Hid (combO k (m :: l) = some [⟨m.f, m.t, m.a, x⟩]) := by
        show combO k (m :: l) = _
        simp [combO, hk, hf.out]
      obtain ⟨k0, k1, k2, k3⟩ := m_cells hq
      have HB : Hid _ := hb
      clear hf hb hq
      go_wp2
      go_ret2
      rw [HN.out]
      exact ⟨⟨_, _, rfl, one_at (heap_alloc_new wr _)⟩, HB.out.alloc HB.out.size _⟩
set_option maxRecDepth 100000 in
theorem rcomb_same {w : World} {P : Nat → Prop} {ao : Option Addr} {cap : Nat} (k : Int) (L : List Msg) (h : MsAt w P ao L) (hk : k = 0 ∨ L = []) :
    Calls Try.prog 39 #[.int .i64 k, .slice ao L.length cap] w fun r w' => CombR w' r (some L) ∧ Below w.heap.size w w' := by
  have HC : Hid _ := h
  have hk' : ((k == 0) = true) ∨ L = [] := by
    rcases hk with rfl | h
    · exact Or.inl rfl
    · exact Or.inr h
  clear h hk
  rcases hk' with hb | rfl
  · go_enter Try.func39, Try.ntmps39
    go_wp2
    go_ret2
    exact ⟨⟨_, _, rfl, MsAt.all HC.out⟩, Below.refl _ _⟩
  · cases hk0 : (k == 0)
    · go_enter Try.func39, Try.ntmps39
      go_wp2
      go_ret2
      exact ⟨⟨_, _, rfl, MsAt.all HC.out⟩, Below.refl _ _⟩
    · go_enter Try.func39, Try.ntmps39
      go_wp2
      go_ret2
      exact ⟨⟨_, _, rfl, MsAt.all HC.out⟩, Below.refl _ _⟩
theorem rcombine_any {w : World} {P : Nat → Prop} {ao : Option Addr} (k : Int) (L : List Msg) (cap : Nat) (h : MsAt w P ao L) (hok : ∀ m ∈ L, m.ok) (hl : L.length * 32 ≤ 140737488355328) :
    Calls Try.prog 39 #[.int .i64 k, .slice ao L.length cap] w fun r w' => CombR w' r (combO k L) ∧ Below w.heap.size w w' := by
  by_cases hk : k = 0
  · have e : combO k L = some L := by cases L <;> simp [combO, hk]
    rw [e]
    exact rcomb_same k L h (Or.inl hk)
  · match L, h, hok, hl with
    | [], h, _, hl => exact rcomb_same k [] h (Or.inr rfl)
    | m :: l, h, hok, hl =>
      obtain ⟨b, off, rfl, _⟩ := h (by simp)
      exact rcomb_fold hk m l h hok (by omega)
end Go.Proofs.Ytfajkfngjfhkoaa
