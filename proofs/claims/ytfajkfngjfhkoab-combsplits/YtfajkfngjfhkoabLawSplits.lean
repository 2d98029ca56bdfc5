/- The walk of the statement on combining in two parts. -/
import Derived.Test.YtfajkfngjfhkoabCbSplitM
import Derived.Deep.CutBlock
namespace Go.Proofs.Ytfajkfngjfhkoab
open Go.RowKit
theorem MsAt.take {w : World} {P : Nat → Prop} {ao : Option Addr} {L : List Msg} (h : MsAt w P ao L) (n : Nat) : MsAt w P ao (L.take n) := by
  intro hl
  rw [List.length_take] at hl
  obtain ⟨b, off, e, hb, hc⟩ := h (by omega)
  refine ⟨b, off, e, hb, fun j hj => ?_⟩
  rw [List.length_take] at hj
  rw [List.getElem_take]
  exact hc j (by omega)
theorem MsAt.drop {w : World} {P : Nat → Prop} {b off : Nat} {L : List Msg} (h : MsAt w P (some ⟨b, off, none⟩) L) (n : Nat) : MsAt w P (some ⟨b, off + n * 4, none⟩) (L.drop n) := by
  intro hl
  rw [List.length_drop] at hl
  obtain ⟨b', off', e, hb, hc⟩ := h (by omega)
  cases e
  refine ⟨b, off + n * 4, rfl, hb, fun j hj => ?_⟩
  rw [List.length_drop] at hj
  rw [List.getElem_drop]
  have := hc (n + j) (by omega)
  rw [show off + (n + j) * 4 = off + n * 4 + j * 4 by omega] at this
  exact this
theorem MsAt.news {w : World} {P : Nat → Prop} {a : Addr} {L : List Msg} (h : MsAt w P (some a) L) : ∀ j u, (L.flatMap msgCells)[j]? = some u → w.cell? (a.add j) = some u := by
  intro j u hj
  obtain ⟨hlt, _⟩ := List.getElem?_eq_some_iff.1 hj
  rw [msg_len] at hlt
  obtain ⟨b, off, e, _, hcs⟩ := h (by omega)
  cases e
  rw [flat_get L j hlt] at hj
  obtain ⟨a0, a1, a2, a3⟩ := hcs (j / 4) (by omega)
  have hadd : (⟨b, off, none⟩ : Addr).add j = ⟨b, off + j / 4 * 4 + j % 4, none⟩ := by
    unfold Addr.add
    split
    · rename_i h0; subst h0; simp
    · simp; omega
  rw [hadd]
  have hr : j % 4 < 4 := by omega
  generalize j % 4 = r at hj hr
  match r, hr, hj with
  | 0, _, hj => simp [msgCells] at hj; rw [Nat.add_zero, a0, hj]
  | 1, _, hj => simp [msgCells] at hj; rw [a1, hj]
  | 2, _, hj => simp [msgCells] at hj; rw [a2, hj]
  | 3, _, hj => simp [msgCells] at hj; rw [a3, hj]
theorem msgsOne (L : List Msg) : ∀ u ∈ L.flatMap msgCells, u.oneCell' = true := by
  intro u hu
  obtain ⟨m, _, hm⟩ := List.mem_flatMap.1 hu
  exact msgOne m u hm
theorem a_eqR (w : World) (x y : Msg) : (Op.equalIn 10000 24 (.agg #[.int .i64 x.f, .int .i64 x.t, .int .i64 x.a, .int .i64 x.v]) (.agg #[.int .i64 y.f, .int .i64 y.t, .int .i64 y.a, .int .i64 y.v])).run Try.prog w = .ok (meq x y) w := by
  unfold Op.equalIn meq
  simp [run_underlying Try.underlying24, (part4 m_sizeI64 Try.isAgg2 _ _ _ _ _).1, (part4 m_sizeI64 Try.isAgg2 _ _ _ _ _).2.1, (part4 m_sizeI Try.isAgg3 _ _ _ _ _).2.2.1, (part4 m_sizeI64 Try.isAgg2 _ _ _ _ _).2.2.2, m_eq64, m_eqI]
  by_cases h1 : x.f = y.f <;> by_cases h2 : x.t = y.t <;> by_cases h3 : x.a = y.a <;> by_cases h4 : x.v = y.v <;> simp [h1, h2, h3, h4]
theorem a_eql (w : World) (x : Msg) : (binOp .eql 24 (.agg #[.int .i64 x.f, .int .i64 x.t, .int .i64 x.a, .int .i64 x.v]) (.agg #[.int .i64 x.f, .int .i64 x.t, .int .i64 x.a, .int .i64 x.v])).run Try.prog w = .ok (.bool true) w := by
  simp only [binOp]
  simp [Op.equal, Op.maxDepth, a_eqR, (meq_iff x x).2 rfl]
theorem a_guard (w : World) (p q : Operand) (x y : Msg) : (eqGuard .eql 24 p q (.agg #[.int .i64 x.f, .int .i64 x.t, .int .i64 x.a, .int .i64 x.v]) (.agg #[.int .i64 y.f, .int .i64 y.t, .int .i64 y.a, .int .i64 y.v])).run Try.prog w = .ok () w := by
  unfold eqGuard
  simp
theorem app1 {w3 w4 : World} {o : Obj} {v1 : Value} (G1 : (w3.alloc o).grownBy w4 (some w3.heap.size)) (L1 : v1.ownBlock = some w3.heap.size ∨ v1.ownBlock = some (w3.alloc o).heap.size) : Fr w3 w4 (fun k => w3.heap.size ≤ k) ∧ ∀ k, v1.ownBlock = some k → w3.heap.size ≤ k := by
  refine ⟨(Fr.alloc w3 o _).trans (Fr.grown G1 (S := fun k => w3.heap.size ≤ k) (fun k hk => by cases hk; exact Nat.le_refl _)) (fun _ _ h => h), fun k hk => ?_⟩
  rw [World.size_alloc] at L1
  rcases L1 with e | e <;> (rw [hk] at e; cases e; omega)
theorem app2 {w3 w4 w5 : World} {v1 : Value} (f : Fr w3 w4 (fun k => w3.heap.size ≤ k)) (h1 : ∀ k, v1.ownBlock = some k → w3.heap.size ≤ k) (G2 : w4.grownBy w5 v1.ownBlock) : Below w3.heap.size w3 w5 :=
  (f.trans (Fr.grown G2 (S := fun k => w3.heap.size ≤ k) (fun k hk => h1 k hk)) (fun _ _ h => h)).below (Nat.le_refl _) (fun _ h => h)
theorem app_shape {w5 : World} {v2 : Value} {A B : List Msg} (h : w5.ownsRow 0 24 4 v2 (0 + A.length + B.length) ([] ++ A.flatMap msgCells ++ B.flatMap msgCells)) (hn : v2 ≠ .slice none 0 0) :
    ∃ g2 c5, v2 = .slice (some ⟨g2, 0, none⟩) (A ++ B).length c5 ∧ (A ++ B).length ≤ c5 ∧ MsAt w5 (fun _ => True) (some ⟨g2, 0, none⟩) (A ++ B) := by
  have hM : Mo w5 24 v2 (A ++ B) := by
    unfold Mo
    rw [List.length_append, List.flatMap_append]
    simpa using h
  rcases hM.2 with ⟨h1, _⟩ | ⟨g2, c5, cur, rfl, _, _, hc, _⟩
  · exact absurd h1 hn
  · exact ⟨g2, c5, rfl, hc, hM.at_.all⟩
theorem app_shape' {w5 : World} {v2 : Value} {A B : List Msg} (h : w5.ownsRow 0 24 4 v2 (0 + A.length + B.length) ([] ++ A.flatMap msgCells ++ B.flatMap msgCells)) (hn : v2 ≠ .slice none 0 0) :
    ∃ g2 c5, v2 = .slice (some ⟨g2, 0, none⟩) (A.length + B.length) c5 ∧ (A ++ B).length ≤ c5 ∧ MsAt w5 (fun _ => True) (some ⟨g2, 0, none⟩) (A ++ B) := by
  obtain ⟨g2, c5, h1, h2⟩ := app_shape h hn
  rw [List.length_append] at h1
  exact ⟨g2, c5, h1, h2⟩
theorem combine_n {w : World} {P : Nat → Prop} {a : Addr} (k : Int) (L : List Msg) (n cap : Nat) (hn : n = L.length) (h : MsAt w P (some a) L) (hok : ∀ m ∈ L, m.ok) (hl : L.length ≤ 200) (hcap : L.length ≤ cap) {R : List Msg} (hR : combO k L = some R) :
    Calls Try.prog 24 #[.int .i64 k, .slice (some a) n cap] w fun r w' => ∃ a' c', r = .returned (.tuple #[.slice (some a') R.length c', .int .i64 0]) ∧ MsAt w' (fun _ => True) (some a') R ∧ Below w.heap.size w w' := by
  subst hn
  refine (combine_some k L cap h hok (by omega) hcap).mono ?_
  rintro r w' ⟨h1, h2⟩
  rw [hR] at h1
  obtain ⟨a', c', h3, h4⟩ := h1
  exact ⟨a', c', h3, h4, h2⟩
theorem foldM_ok {k : Int} : ∀ (l : List Msg) (x : Int) {y : Int}, I64 x → (∀ m ∈ l, I64 m.v) → foldM k x l = some y → I64 y
  | [], x, y, hx, _, h => by cases h; exact hx
  | m :: l, x, y, hx, hl, h => by
    have h' : (if jnE k x m.v then none else foldM k (jn k x m.v) l) = some y := h
    cases hE : jnE k x m.v with
    | true => rw [hE] at h'; cases h'
    | false =>
      rw [hE] at h'
      exact foldM_ok l _ (jnE_false hE hx (hl m (by simp))) (fun m' hm => hl m' (by simp [hm])) h'
theorem combO_le {k : Int} {L R : List Msg} (h : combO k L = some R) : R.length ≤ L.length := by
  match L, h with
  | [], h => cases h; exact Nat.le_refl _
  | m :: l, h =>
    have h' : (if k = 0 then some (m :: l) else (foldM k m.v l).map fun v => [⟨m.f, m.t, m.a, v⟩]) = some R := h
    split at h'
    · cases h'; exact Nat.le_refl _
    · cases hf : foldM k m.v l with
      | none => rw [hf] at h'; cases h'
      | some v => rw [hf] at h'; cases h'; simp
theorem combO_ok {k : Int} {L R : List Msg} (h : combO k L = some R) (hok : ∀ m ∈ L, m.ok) : ∀ m ∈ R, m.ok := by
  match L, h, hok with
  | [], h, _ => cases h; exact fun m hm => by cases hm
  | m :: l, h, hok =>
    have h' : (if k = 0 then some (m :: l) else (foldM k m.v l).map fun v => [⟨m.f, m.t, m.a, v⟩]) = some R := h
    split at h'
    · cases h'; exact hok
    · cases hf : foldM k m.v l with
      | none => rw [hf] at h'; cases h'
      | some v =>
        rw [hf] at h'
        cases h'
        intro x hx
        simp at hx
        subst hx
        have okm := hok m (by simp)
        refine ⟨okm.f, okm.t, okm.a, ?_⟩
        exact foldM_ok l m.v okm.v (fun x hx => (hok x (by simp [hx])).v) hf
set_option maxRecDepth 100000 in
set_option maxHeartbeats 1000000 in
theorem law_splits (kind : Int) (ao : Option Addr) (cap : Nat) (L : List Msg) (at_ : Int) (w : World) {P : Nat → Prop} (h : MsAt w P ao L) (hok : ∀ m ∈ L, m.ok) (hl : L.length * 32 ≤ 140737488355328) (hcap : L.length ≤ cap) :
    Calls Try.prog 5 #[.int .i64 kind, .slice ao L.length cap, .int .i64 at_] w fun e w' => e = .returned (.bool true) ∧ Below w.heap.size w w' := by
  obtain ⟨i0, hi, hz0, hz1, hz2⟩ := info_parts infoMsg
  have HM : Hid (MsAt w P ao (L.take 60)) := h.take 60
  have HO : Hid (∀ m ∈ L.take 60, m.ok) := fun m hm => hok m (List.mem_of_mem_take hm)
  have hM60 : (L.take 60).length ≤ 60 := by rw [List.length_take]; omega
  have HM6 : Hid ((L.take 60).length = min 60 L.length) := List.length_take
  generalize L.take 60 = M at HM HO hM60 HM6
  clear h hok
  go_enter Try.func5, Try.ntmps5
  go_upto_if 22 with fail
  go_cut [1] (fun u wx => u = .slice ao M.length cap ∧ w = wx)
  case first =>
    by_cases h60 : 60 < L.length
    · have e6 : Hid (M.length = 60) := by show _ = _; rw [HM6.out]; omega
      go_wp2
      go_meet
      exact ⟨by rw [e6.out], rfl⟩
    · have e6 : Hid (M.length = L.length) := by show _ = _; rw [HM6.out]; omega
      go_wp2
      go_meet
      exact ⟨by rw [e6.out], rfl⟩
  case rest =>
    obtain ⟨rfl, he⟩ := hcut
    subst he
    go_upto_block 0 with fail
    go_cut [7] (fun u wx => ∃ (g c : Nat), u = .slice (some ⟨g, 0, none⟩) M.length c ∧ M.length ≤ c ∧ MsAt wx (fun _ => True) (some ⟨g, 0, none⟩) (M.map smallM) ∧ Below w.heap.size w wx)
    case first =>
      go_wp2_with fail
      go_loopw [7, 8, 9] (fun u i _ wr => ∃ (j g c : Nat), j ≤ M.length ∧ w.heap.size ≤ g ∧ u = .slice (some ⟨g, 0, none⟩) j c ∧ i = .int .i64 j ∧ Mo wr 24 (.slice (some ⟨g, 0, none⟩) j c) ((M.map smallM).take j) ∧ Below w.heap.size w wr) (fun _ i _ _ => M.length - (intOf i).toNat)
      case atStart =>
        exact ⟨0, w.heap.size, 0, Nat.zero_le _, Nat.le_refl _, rfl, rfl, World.ownsRow_made w #[] 0 (Nat.zero_le _) (by decide) (by simp), (Below.refl _ w).alloc (Nat.le_refl _) _⟩
      case round =>
        obtain ⟨j, g, c, hj, hg, rfl, rfl, hR, hb⟩ := hrel
        by_cases hlt : j < M.length
        · obtain ⟨b, off, rfl, hP, hc⟩ := HM.out (by omega)
          obtain ⟨e0, e1, e2, e3⟩ := hc j hlt
          have d0 := (hb.cell (p := ⟨b, off + j * 4, none⟩) (lt_cell e0)).trans e0
          have d1 := (hb.cell (p := ⟨b, off + j * 4 + 1, none⟩) (lt_cell e0)).trans e1
          have d2 := (hb.cell (p := ⟨b, off + j * 4 + 2, none⟩) (lt_cell e0)).trans e2
          have d3 := (hb.cell (p := ⟨b, off + j * 4 + 3, none⟩) (lt_cell e0)).trans e3
          have HS : Hid ((M.map smallM).take (j + 1) = (M.map smallM).take j ++ [smallM M[j]]) := by
            show _ = _
            rw [List.take_succ_eq_append_getElem (by rw [List.length_map]; exact hlt), List.getElem_map]
          have HLg : Hid (((M.map smallM).take j).length = j) := by show _ = _; rw [List.length_take, List.length_map]; omega
          have oky := HO.out _ (List.getElem_mem hlt)
          generalize M[j] = y at d0 d1 d2 d3 HS oky
          have hv := oky.v
          have HR : Hid _ := hR
          have HB : Hid _ := hb
          clear e0 e1 e2 e3 hc hR hb
          have HN : Hid _ := m_four (by have := heap_alloc_new (wr.alloc (.cells #[.int .i64 y.f, .int .i64 y.t, .int .i64 y.a, .int .i64 (y.v.tmod 1099511627776)] 24)) (.cells #[.int .i64 y.f, .int .i64 y.t, .int .i64 y.a, .int .i64 (y.v.tmod 1099511627776)] 24); rw [World.size_alloc] at this; exact this)
          have hsz : w.heap.size ≤ wr.heap.size := HB.out.size
          go_wp2_with (at_builtin; refine wpList_append_own_at _ rfl _ _ 22 rfl 0 24 i0 (.agg #[.int .i64 0, .int .i64 0, .int .i64 0, .int .i64 0]) 4 32 Try.underlying22 hi hz0 hz1 hz2 rfl (by decide) _ _ _ rfl (Mo.alloc (Mo.alloc HR.out _) _) ⟨wr.heap.size + 1, 0, none⟩ 1 1 (msgCells (smallM y)) rfl rfl HN.out (msgOne _) (by rw [HLg.out]; unfold maxLen; omega) (by rw [HLg.out]; omega) (Nat.zero_le _) ?_)
          intro v' w4 hown hgrow hne hat'
          have hM4 : Mo w4 24 v' ((M.map smallM).take (j + 1)) := by rw [HS.out]; exact Mo.snoc (by rw [HLg.out]; exact hown)
          have hB3 : Below w.heap.size w ((wr.alloc (.cells #[.int .i64 y.f, .int .i64 y.t, .int .i64 y.a, .int .i64 (y.v.tmod 1099511627776)] 24)).alloc (.cells #[.int .i64 y.f, .int .i64 y.t, .int .i64 y.a, .int .i64 (y.v.tmod 1099511627776)] 24)) := (HB.out.alloc HB.out.size _).alloc (by have := HB.out.size; simp; omega) _
          have hB4 : Below w.heap.size w w4 := hB3.trans ((Fr.grown hgrow (S := fun k => k = g) (fun k hk => by cases hk; rfl)).below hB3.size (fun k hk => by omega))
          obtain ⟨g', c', rfl, hg'⟩ : ∃ g' c', v' = .slice (some ⟨g', 0, none⟩) (j + 1) c' ∧ w.heap.size ≤ g' := by
            rcases hown.2 with ⟨h1, h2⟩ | ⟨g', c', cur, rfl, _⟩
            · omega
            · refine ⟨g', c', rfl, ?_⟩
              rcases hat' with e | e
              · simp only [Value.ownBlock, Option.some.injEq] at e; omega
              · simp only [Value.ownBlock, Option.some.injEq] at e; omega
          have HM4 : Hid _ := hM4
          have HB4 : Hid _ := hB4
          clear hM4 hB3 hB4 hown hgrow hne hat' HN HR HB HS
          go_wp2
          go_roundw
          case rel => exact ⟨j + 1, g', c', by omega, hg', rfl, by go_num, HM4.out, HB4.out⟩
          case measure => simp [intOf]; omega
        · obtain rfl : j = M.length := by omega
          rw [List.take_of_length_le (by rw [List.length_map]; exact Nat.le_refl _)] at hR
          have hcc : M.length ≤ c := by
            rcases hR.2 with ⟨h1, _⟩ | ⟨g', c', cur, h1, _, _, hn, _⟩
            · cases h1
            · simp only [Value.slice.injEq] at h1
              obtain ⟨_, _, rfl⟩ := h1
              rw [List.length_map] at hn
              exact hn
          have HR : Hid _ := MsAt.all (Mo.at_ hR)
          have HB : Hid _ := hb
          clear hR hb
          go_wp2
          go_meet
          exact ⟨g, c, rfl, hcc, HR.out, HB.out⟩
    case rest =>
      obtain ⟨g, c, rfl, hcc, hms, hb⟩ := hcut
      have HD : Hid (∀ x ∈ M.map smallM, x.ok ∧ Sml 1 x.v) := fun x hx => by
        obtain ⟨y, hy, rfl⟩ := List.mem_map.1 hx
        exact ⟨smallM_ok (HO.out y hy), smallM_sml y⟩
      have hDl : M.length = (M.map smallM).length := by rw [List.length_map]
      rw [hDl] at hM60 hcc ⊢
      clear HO HM HM6 hDl
      generalize M.map smallM = D at HD hms hM60 hcc ⊢
      have HMs : Hid _ := hms
      have HB : Hid _ := hb
      clear hms hb
      obtain ⟨r, hr⟩ : ∃ r, kind.tmod 3 = r := ⟨_, rfl⟩
      have hr1 : -3 < r ∧ r < 3 := by
        have a := Int.tmod_lt_of_pos kind (b := 3) (by decide)
        have b := Int.tmod_lt_of_pos (-kind) (b := 3) (by decide)
        rw [Int.neg_tmod] at b
        omega
      obtain ⟨q, hq⟩ : ∃ q, (r + 3).tmod 3 = q := ⟨_, rfl⟩
      have hq1 : 0 ≤ q ∧ q < 3 := by
        rw [← hq]
        exact ⟨Int.tmod_nonneg _ (by omega), Int.tmod_lt_of_pos _ (by decide)⟩
      go_upto_if 51 with fail
      go_cut [11] (fun v wx => ∃ kk : Nat, (kk < D.length ∨ (D = [] ∧ kk = 0)) ∧ v = .int .i64 kk ∧ wc = wx)
      case first =>
        by_cases h0 : 0 < D.length
        · obtain ⟨r2, hr2⟩ : ∃ r2, at_.tmod (D.length : Int) = r2 := ⟨_, rfl⟩
          have hr3 : -(D.length : Int) < r2 ∧ r2 < D.length := by
            have a := Int.tmod_lt_of_pos at_ (b := (D.length : Int)) (by omega)
            have b := Int.tmod_lt_of_pos (-at_) (b := (D.length : Int)) (by omega)
            rw [Int.neg_tmod] at b
            omega
          obtain ⟨q2, hq2⟩ : ∃ q2, (r2 + (D.length : Int)).tmod (D.length : Int) = q2 := ⟨_, rfl⟩
          have hq3 : 0 ≤ q2 ∧ q2 < D.length := by
            rw [← hq2]
            exact ⟨Int.tmod_nonneg _ (by omega), Int.tmod_lt_of_pos _ (by omega)⟩
          obtain ⟨kk, rfl⟩ : ∃ kk : Nat, q2 = kk := ⟨q2.toNat, by omega⟩
          go_wp2
          go_meet
          exact ⟨kk, .inl (by omega), rfl, rfl⟩
        · go_wp2
          go_meet
          exact ⟨0, .inr ⟨List.eq_nil_of_length_eq_zero (by omega), rfl⟩, rfl, rfl⟩
      case rest =>
        obtain ⟨kk, hks, rfl, he⟩ := hcut
        subst he
        have hK : 1 + q = 1 ∨ 1 + q = 2 ∨ 1 + q = 3 := by omega
        clear hr hq hr1 hq1
        generalize 1 + q = K at hK ⊢
        obtain ⟨A, B, R, hA, hB, hR, hC⟩ := splits hK (O := D) (fun x hx => (HD.out x hx).2) hM60 kk (hks.imp id (fun h => h.1))
        have HA : Hid _ := hA
        have HBb : Hid _ := hB
        have HRr : Hid _ := hR
        have HCc : Hid _ := hC
        have HDo : Hid (∀ x ∈ D, x.ok) := fun x hx => (HD.out x hx).1
        have hkl : kk ≤ D.length := by rcases hks with h | ⟨h1, h2⟩ <;> omega
        have HTl : Hid (kk = (D.take kk).length) := by show _ = _; rw [List.length_take]; omega
        have HDl : Hid (D.length - kk = (D.drop kk).length) := by show _ = _; rw [List.length_drop]
        have hA1 : A.length ≤ 60 := by have := combO_le hA; rw [List.length_take] at this; omega
        have hB1 : B.length ≤ 60 := by have := combO_le hB; rw [List.length_drop] at this; omega
        have HAB : Hid (∀ x ∈ A ++ B, x.ok) := fun x hx => by
          rcases List.mem_append.1 hx with hx | hx
          · exact combO_ok hA (fun m hm => HDo.out m (List.mem_of_mem_take hm)) x hx
          · exact combO_ok hB (fun m hm => HDo.out m (List.mem_of_mem_drop hm)) x hx
        have HABl : Hid (A.length + B.length = (A ++ B).length) := List.length_append.symm
        have tk1 : Hid True := trivial
        clear hA hB hR hC hK
        rcases hks with hlt | ⟨hD0, hk0⟩
        case' inl =>
          have hne : ¬ c = kk := by omega
          have HDr : Hid (MsAt wc (fun _ => True) (some ⟨g, kk * 4, none⟩) (D.drop kk)) := by
            have := MsAt.drop HMs.out kk
            rw [Nat.zero_add] at this
            exact this
          go_upto_region 17 with (go_at_call 24; first
            | (have _t := tk1; refine (combine_n K D D.length c rfl HMs.out HDo.out (by omega) hcc HRr.out).mono ?_; rintro e w1 ⟨a1, c1, rfl, m1, hb1⟩; have M1 : Hid _ := m1; have Bx : Hid _ := hb1; have B1 : Hid _ := HB.out.trans (hb1.mono HB.out.size); have tk2 : Hid True := trivial; clear m1 hb1 tk1)
            | (have _t := tk2; refine (combine_n K (D.take kk) kk c HTl.out ((MsAt.new HMs.out Bx.out).take kk) (fun m hm => HDo.out m (List.mem_of_mem_take hm)) (by rw [List.length_take]; omega) (by rw [List.length_take]; omega) HA.out).mono ?_; rintro e w2 ⟨a2, c2, rfl, m2, hb2⟩; have M2 : Hid _ := m2; have By : Hid _ := Bx.out.trans (hb2.mono Bx.out.size); have B2 : Hid _ := B1.out.trans (hb2.mono B1.out.size); have M12 : Hid _ := MsAt.new M1.out hb2; have tk3 : Hid True := trivial; clear m2 hb2 tk2)
            | (have _t := tk3; refine (combine_n K (D.drop kk) (D.length - kk) (c - kk) HDl.out (MsAt.new HDr.out By.out) (fun m hm => HDo.out m (List.mem_of_mem_drop hm)) (by rw [List.length_drop]; omega) (by rw [List.length_drop]; omega) HBb.out).mono ?_; rintro e w3 ⟨a3, c3, rfl, m3, hb3⟩; have M3 : Hid _ := m3; have B3 : Hid _ := B2.out.trans (hb3.mono B2.out.size); have M13 : Hid _ := MsAt.new M12.out hb3; have M23 : Hid _ := MsAt.new M2.out hb3; clear m3 hb3 tk3))
        case' inr =>
          subst hD0 hk0
          by_cases hc0 : c = 0
          all_goals
            go_upto_region 17 with (go_at_call 24; first
              | (have _t := tk1; refine (combine_n (P := fun _ => True) K [] 0 _ rfl (fun h => absurd h (by simp)) (fun m hm => by cases hm) (by simp) (Nat.zero_le _) HRr.out).mono ?_; rintro e w1 ⟨a1, c1, rfl, m1, hb1⟩; have M1 : Hid _ := m1; have B1 : Hid _ := HB.out.trans (hb1.mono HB.out.size); have tk2 : Hid True := trivial; clear m1 hb1 tk1)
              | (have _t := tk2; refine (combine_n (P := fun _ => True) K [] 0 _ rfl (fun h => absurd h (by simp)) (fun m hm => by cases hm) (by simp) (Nat.zero_le _) HA.out).mono ?_; rintro e w2 ⟨a2, c2, rfl, m2, hb2⟩; have M2 : Hid _ := m2; have B2 : Hid _ := B1.out.trans (hb2.mono B1.out.size); have M12 : Hid _ := MsAt.new M1.out hb2; have tk3 : Hid True := trivial; clear m2 hb2 tk2)
              | (have _t := tk3; refine (combine_n (P := fun _ => True) K [] 0 _ rfl (fun h => absurd h (by simp)) (fun m hm => by cases hm) (by simp) (Nat.zero_le _) HBb.out).mono ?_; rintro e w3 ⟨a3, c3, rfl, m3, hb3⟩; have M3 : Hid _ := m3; have B3 : Hid _ := B2.out.trans (hb3.mono B2.out.size); have M13 : Hid _ := MsAt.new M12.out hb3; have M23 : Hid _ := MsAt.new M2.out hb3; clear m3 hb3 tk3))
        all_goals
          have ho0 : (w3.alloc (.cells #[] 24)).ownsRow 0 24 4 (.slice (some ⟨w3.heap.size, 0, none⟩) 0 0) 0 [] := World.ownsRow_made w3 #[] 0 (Nat.zero_le _) (by decide) (by simp)
          have HO0 : Hid ((w3.alloc (.cells #[] 24)).ownsRow 0 24 4 (.slice (some ⟨w3.heap.size, 0, none⟩) 0 0) 0 []) := ho0
          have N2 : Hid _ := MsAt.news (MsAt.new M23.out ((Below.refl _ w3).alloc (Nat.le_refl _) (.cells #[] 24)))
          have M3a : Hid (MsAt w3 (fun k => k < w3.heap.size) (some a3) B) := MsAt.mono M3.out (fun k hk _ => hk)
          have ta1 : Hid True := trivial
          clear ho0 M3 M23 M2 M12 M1 HMs HD
          go_upto_region 18 with (first
            | (at_builtin; first
              | (have _t := ta1; refine wpList_append_own_at _ rfl _ _ 22 rfl 0 24 i0 (.agg #[.int .i64 0, .int .i64 0, .int .i64 0, .int .i64 0]) 4 32 Try.underlying22 hi hz0 hz1 hz2 rfl (by decide) (.slice (some ⟨w3.heap.size, 0, none⟩) 0 0) 0 [] rfl HO0.out a2 A.length c2 (A.flatMap msgCells) rfl (msg_len A) N2.out (msgsOne A) (by unfold maxLen; omega) (by omega) (Nat.zero_le _) ?_; intro v1 w4 ho1 hg1 hn1 hl1; have f1 := app1 hg1 hl1; have OW1 : Hid (w4.ownsRow 0 24 4 v1 (0 + A.length) ([] ++ A.flatMap msgCells)) := ho1; have F1 : Hid _ := f1; have NN1 : Hid (v1 ≠ .slice none 0 0) := (by first | exact hn1 | (intro e; exact absurd (hn1.1 e).1 (by simp))); have N3 : Hid _ := MsAt.news (MsAt.kept (Q := fun _ => True) M3a.out f1.1 (fun k _ hk => ⟨by omega, trivial⟩)); clear ho1 hg1 hn1 hl1 f1 ta1; have ta2 : Hid True := trivial)
              | (have _t := ta2; refine wpList_append_own_at _ rfl _ _ 22 rfl 0 24 i0 (.agg #[.int .i64 0, .int .i64 0, .int .i64 0, .int .i64 0]) 4 32 Try.underlying22 hi hz0 hz1 hz2 rfl (by decide) v1 (0 + A.length) ([] ++ A.flatMap msgCells) rfl OW1.out a3 B.length c3 (B.flatMap msgCells) rfl (msg_len B) N3.out (msgsOne B) (by unfold maxLen; omega) (by omega) (Nat.zero_le _) ?_; intro v2 w5 ho2 hg2 hn2 hl2; obtain ⟨g2, c5, rfl, hc5, m5⟩ := app_shape' ho2 (by first | (intro e; exact NN1.out (hn2.1 e).1) | exact fun e => NN1.out (hn2 e).1 | exact fun e => NN1.out (hn2 e)); have b5 := app2 F1.out.1 F1.out.2 hg2; have M5 : Hid _ := m5; have B5 : Hid _ := B3.out.trans (b5.mono B3.out.size); have M15 : Hid _ := MsAt.new M13.out b5; have HC5 : Hid _ := hc5; clear ho2 hg2 hn2 hl2 m5 b5 hc5 ta2))
            | (go_at_call 24; refine (combine_n K (A ++ B) (A.length + B.length) c5 HABl.out M5.out HAB.out (by rw [List.length_append]; omega) HC5.out HCc.out).mono ?_; rintro e w6 ⟨a6, c6, rfl, m6, hb6⟩; have M6 : Hid _ := m6; have B6 : Hid _ := B5.out.trans (hb6.mono B5.out.size); have M16 : Hid _ := MsAt.new M15.out hb6; clear m6 hb6))
          go_upto_region 20 with (go_at_call 13; refine (awake5 _).mono ?_; rintro e w7 ⟨rfl, hb7⟩; have M7 : Hid _ := MsAt.new M6.out hb7; have B7 : Hid _ := B6.out.trans (hb7.mono B6.out.size); have M17 : Hid _ := MsAt.new M16.out hb7; clear hb7)
          cases R with
          | nil =>
            go_quiet (fail)
            go_wp2
            go_ret
            exact ⟨rfl, m_drewN B7.out _⟩
          | cons m R =>
            obtain ⟨b1, o1, e1, _, hc1⟩ := M17.out (by simp)
            cases e1
            obtain ⟨b6, o6, e6, _, hc6⟩ := M7.out (by simp)
            cases e6
            obtain ⟨p0, p1, p2, p3⟩ := hc1 0 (by simp)
            obtain ⟨q0, q1, q2, q3⟩ := hc6 0 (by simp)
            simp only [Nat.zero_mul, Nat.add_zero, List.getElem_cons_zero] at p0 p1 p2 p3 q0 q1 q2 q3
            have hq1 := fun w p q => a_guard w p q m m
            have hq2 := fun w => a_eql w m
            clear hc1 hc6
            go_quiet (fail)
            go_wp2
            go_ret
            exact ⟨rfl, m_drewN B7.out _⟩
end Go.Proofs.Ytfajkfngjfhkoab
