/- The walk of the statement on messages' bytes. -/
import Derived.Test.YtfajkfngjfhkoabCbBytesM
import Derived.Test.YtfajkfngjfhkoabCbRB
import Derived.Test.YtfajkfngjfhkoabCbComb
import Derived.Deep.CutBlock
namespace Go.Proofs.Ytfajkfngjfhkoab
open Go.RowKit
theorem pairW {w0 w1 w2 : World} (hb : Below w0.heap.size w0 w1) (hf : Fr w1 w2 (fun k => k = w0.heap.size ∨ (Value.slice none 0 0).ownBlock = some k)) : Below w0.heap.size w0 w2 :=
  hb.trans (hf.below hb.size (fun k hk => by rcases hk with rfl | hk; exact Nat.le_refl _; cases hk))
theorem pairR {w0 w1 w2 : World} (hb : Below w0.heap.size w0 w1) (hf : Fr w1 w2 (fun k => k = w0.heap.size)) : Below w0.heap.size w0 w2 :=
  hb.trans (hf.below hb.size (fun k hk => by rw [hk]; exact Nat.le_refl _))
theorem Wr.newB {w w' : World} {base p : Nat} {v : Value} {l : List UInt8} (h : Wr w base p v l) (hb : Below w.heap.size w w') : Wr w' base p v l :=
  h.kept (Fr.ofBelow hb (fun _ => False)) (fun h => h) (fun _ _ h => h)
theorem Rd.newB {w w' : World} {p : Nat} {s : ByteArray} {a e : Int} (h : Rd w p s a e) (hb : Below w.heap.size w w') : Rd w' p s a e :=
  h.kept (Fr.ofBelow hb (fun _ => False)) (fun h => h)
def cleanM (m : Msg) : Msg := if m.a < 0 ∨ 65536 < m.a then ⟨m.f, m.t, 0, m.v⟩ else m
theorem cleanM_ok {m : Msg} (h : m.ok) : (cleanM m).ok ∧ 0 ≤ (cleanM m).a ∧ (cleanM m).a ≤ 65536 := by
  unfold cleanM
  split
  · exact ⟨⟨h.f, h.t, ⟨by show (-9223372036854775808 : Int) ≤ 0; decide, by show (0 : Int) ≤ 9223372036854775807; decide⟩, h.v⟩, by show (0 : Int) ≤ 0; decide, by show (0 : Int) ≤ 65536; decide⟩
  · exact ⟨h, by omega, by omega⟩
set_option maxRecDepth 100000 in
set_option maxHeartbeats 2000000 in
theorem law_cbytes (ao : Option Addr) (cap : Nat) (L : List Msg) (s : ByteArray) (w : World) {P : Nat → Prop} (h : MsAt w P ao L) (hok : ∀ m ∈ L, m.ok) (hl : L.length * 32 ≤ 140737488355328) (hs : s.size + 4096 ≤ 140737488355328) :
    Calls Try.prog 3 #[.slice ao L.length cap, .string s] w fun e w' => e = .returned (.bool true) ∧ Below w.heap.size w w' := by
  obtain ⟨i0, hi, hz0, hz1, hz2⟩ := info_parts infoMsg
  have HM : Hid (MsAt w P ao L) := h
  have HO : Hid (∀ m ∈ L, m.ok) := hok
  clear h hok
  go_enter Try.func3, Try.ntmps3
  go_upto_block 0 with fail
  go_cut [5] (fun u wx => ∃ (D : List Msg) (g c : Nat), u = .slice (some ⟨g, 0, none⟩) D.length c ∧ D.length ≤ 100 ∧ Hid (∀ m ∈ D, m.ok ∧ 0 ≤ m.a ∧ m.a ≤ 65536) ∧ MsAt wx (fun k => k < wx.heap.size) (some ⟨g, 0, none⟩) D ∧ Below w.heap.size w wx)
  case first =>
    go_wp2_with fail
    go_loopw [5, 6, 7] (fun u i _ wr => ∃ (j g c : Nat), j ≤ L.length ∧ j ≤ 100 ∧ w.heap.size ≤ g ∧ u = .slice (some ⟨g, 0, none⟩) j c ∧ i = .int .i64 j ∧ Mo wr 24 (.slice (some ⟨g, 0, none⟩) j c) ((L.map cleanM).take j) ∧ Below w.heap.size w wr) (fun _ i _ _ => L.length - (intOf i).toNat)
    case atStart =>
      exact ⟨0, w.heap.size, 0, Nat.zero_le _, by decide, Nat.le_refl _, rfl, rfl, World.ownsRow_made w #[] 0 (Nat.zero_le _) (by decide) (by simp), (Below.refl _ w).alloc (Nat.le_refl _) _⟩
    case round =>
      obtain ⟨j, g, c, hj, hj1, hg, rfl, rfl, hR, hb⟩ := hrel
      have fin : (¬ j < L.length ∨ ¬ j < 100) → ∃ (D : List Msg) (g' c' : Nat), Value.slice (some ⟨g, 0, none⟩) j c = .slice (some ⟨g', 0, none⟩) D.length c' ∧ D.length ≤ 100 ∧ Hid (∀ m ∈ D, m.ok ∧ 0 ≤ m.a ∧ m.a ≤ 65536) ∧ MsAt wr (fun k => k < wr.heap.size) (some ⟨g', 0, none⟩) D ∧ Below w.heap.size w wr := fun _ => by
        have e : ((L.map cleanM).take j).length = j := by rw [List.length_take, List.length_map]; omega
        refine ⟨(L.map cleanM).take j, g, c, by rw [e], by rw [e]; exact hj1, fun m hm => ?_, (Mo.at_ hR).mono (fun k hk _ => hk), hb⟩
        obtain ⟨y, hy, rfl⟩ := List.mem_map.1 (List.mem_of_mem_take hm)
        exact cleanM_ok (HO.out y hy)
      by_cases hlt : j < L.length
      · by_cases hl1 : j < 100
        · obtain ⟨b, off, rfl, hP, hc⟩ := HM.out (by omega)
          obtain ⟨e0, e1, e2, e3⟩ := hc j hlt
          have d0 := (hb.cell (p := ⟨b, off + j * 4, none⟩) (lt_cell e0)).trans e0
          have d1 := (hb.cell (p := ⟨b, off + j * 4 + 1, none⟩) (lt_cell e0)).trans e1
          have d2 := (hb.cell (p := ⟨b, off + j * 4 + 2, none⟩) (lt_cell e0)).trans e2
          have d3 := (hb.cell (p := ⟨b, off + j * 4 + 3, none⟩) (lt_cell e0)).trans e3
          have HS : Hid ((L.map cleanM).take (j + 1) = (L.map cleanM).take j ++ [cleanM L[j]]) := by
            show _ = _
            rw [List.take_succ_eq_append_getElem (by rw [List.length_map]; exact hlt), List.getElem_map]
          have HLg : Hid (((L.map cleanM).take j).length = j) := by show _ = _; rw [List.length_take, List.length_map]; omega
          generalize L[j] = y at d0 d1 d2 d3 HS
          have HR : Hid _ := hR
          have HB : Hid _ := hb
          have hsz : w.heap.size ≤ wr.heap.size := hb.size
          clear e0 e1 e2 e3 hc hR hb fin
          have fin2 : Hid (∀ (z : Msg), cleanM y = z → ∀ (v' : Value) (w4 : World), w4.ownsRow 0 24 4 v' (j + 1) (((L.map cleanM).take j).flatMap msgCells ++ msgCells z) → ((wr.alloc (.cells (msgCells z).toArray 24)).alloc (.cells (msgCells z).toArray 24)).grownBy w4 (some g) → (v'.ownBlock = some g ∨ v'.ownBlock = some (wr.heap.size + 1 + 1)) → ∃ g' c', v' = .slice (some ⟨g', 0, none⟩) (j + 1) c' ∧ w.heap.size ≤ g' ∧ Mo w4 24 v' ((L.map cleanM).take (j + 1)) ∧ Below w.heap.size w w4) := fun z hz v' w4 hown hgrow hat' => by
            subst hz
            have hM4 : Mo w4 24 v' ((L.map cleanM).take (j + 1)) := by rw [HS.out]; exact Mo.snoc (by rw [HLg.out]; exact hown)
            have hB3 : Below w.heap.size w ((wr.alloc (.cells (msgCells (cleanM y)).toArray 24)).alloc (.cells (msgCells (cleanM y)).toArray 24)) := (HB.out.alloc HB.out.size _).alloc (by have := HB.out.size; simp; omega) _
            have hB4 : Below w.heap.size w w4 := hB3.trans ((Fr.grown hgrow (S := fun k => k = g) (fun k hk => by cases hk; rfl)).below hB3.size (fun k hk => by omega))
            rcases hown.2 with ⟨h1, h2⟩ | ⟨g', c', cur, rfl, _⟩
            · omega
            · refine ⟨g', c', rfl, ?_, hM4, hB4⟩
              rcases hat' with e | e
              · simp only [Value.ownBlock, Option.some.injEq] at e; omega
              · simp only [Value.ownBlock, Option.some.injEq] at e; omega
          by_cases hA : y.a < 0
          · have HZ : Hid (cleanM y = ⟨y.f, y.t, 0, y.v⟩) := by show _ = _; unfold cleanM; rw [if_pos (Or.inl hA)]
            have HN : Hid _ := m_four (by have := heap_alloc_new (wr.alloc (.cells #[.int .i64 y.f, .int .i64 y.t, .int .i64 0, .int .i64 y.v] 24)) (.cells #[.int .i64 y.f, .int .i64 y.t, .int .i64 0, .int .i64 y.v] 24); rw [World.size_alloc] at this; exact this)
            go_wp2_with (at_builtin; refine wpList_append_own_at _ rfl _ _ 22 rfl 0 24 i0 (.agg #[.int .i64 0, .int .i64 0, .int .i64 0, .int .i64 0]) 4 32 Try.underlying22 hi hz0 hz1 hz2 rfl (by decide) (.slice (some ⟨g, 0, none⟩) j c) _ _ rfl (Mo.alloc (Mo.alloc HR.out _) _) ⟨wr.heap.size + 1, 0, none⟩ 1 1 (msgCells ⟨y.f, y.t, 0, y.v⟩) rfl rfl HN.out (msgOne _) (by rw [HLg.out]; unfold maxLen; omega) (by rw [HLg.out]; omega) (Nat.zero_le _) ?_)
            intro v' w4 hown hgrow _ hat'
            obtain ⟨g', c', rfl, hg', hm4, hb4⟩ := fin2.out _ HZ.out v' w4 (by rw [← HLg.out]; first | exact hown | (rw [HLg.out]; exact hown)) hgrow hat'
            have HM4 : Hid _ := hm4
            have HB4 : Hid _ := hb4
            clear hm4 hb4 hown hgrow hat' HN HR fin2
            go_wp2
            go_roundw
            case rel => exact ⟨j + 1, g', c', by omega, by omega, hg', rfl, by go_num, HM4.out, HB4.out⟩
            case measure => simp [intOf]; omega
          · by_cases hB : 65536 < y.a
            · have HZ : Hid (cleanM y = ⟨y.f, y.t, 0, y.v⟩) := by show _ = _; unfold cleanM; rw [if_pos (Or.inr hB)]
              have HN : Hid _ := m_four (by have := heap_alloc_new (wr.alloc (.cells #[.int .i64 y.f, .int .i64 y.t, .int .i64 0, .int .i64 y.v] 24)) (.cells #[.int .i64 y.f, .int .i64 y.t, .int .i64 0, .int .i64 y.v] 24); rw [World.size_alloc] at this; exact this)
              go_wp2_with (at_builtin; refine wpList_append_own_at _ rfl _ _ 22 rfl 0 24 i0 (.agg #[.int .i64 0, .int .i64 0, .int .i64 0, .int .i64 0]) 4 32 Try.underlying22 hi hz0 hz1 hz2 rfl (by decide) (.slice (some ⟨g, 0, none⟩) j c) _ _ rfl (Mo.alloc (Mo.alloc HR.out _) _) ⟨wr.heap.size + 1, 0, none⟩ 1 1 (msgCells ⟨y.f, y.t, 0, y.v⟩) rfl rfl HN.out (msgOne _) (by rw [HLg.out]; unfold maxLen; omega) (by rw [HLg.out]; omega) (Nat.zero_le _) ?_)
              intro v' w4 hown hgrow _ hat'
              obtain ⟨g', c', rfl, hg', hm4, hb4⟩ := fin2.out _ HZ.out v' w4 (by rw [← HLg.out]; first | exact hown | (rw [HLg.out]; exact hown)) hgrow hat'
              have HM4 : Hid _ := hm4
              have HB4 : Hid _ := hb4
              clear hm4 hb4 hown hgrow hat' HN HR fin2
              go_wp2
              go_roundw
              case rel => exact ⟨j + 1, g', c', by omega, by omega, hg', rfl, by go_num, HM4.out, HB4.out⟩
              case measure => simp [intOf]; omega
            · have HZ : Hid (cleanM y = y) := by show _ = _; unfold cleanM; rw [if_neg (by omega)]
              have HN : Hid _ := m_four (by have := heap_alloc_new (wr.alloc (.cells #[.int .i64 y.f, .int .i64 y.t, .int .i64 y.a, .int .i64 y.v] 24)) (.cells #[.int .i64 y.f, .int .i64 y.t, .int .i64 y.a, .int .i64 y.v] 24); rw [World.size_alloc] at this; exact this)
              go_wp2_with (at_builtin; refine wpList_append_own_at _ rfl _ _ 22 rfl 0 24 i0 (.agg #[.int .i64 0, .int .i64 0, .int .i64 0, .int .i64 0]) 4 32 Try.underlying22 hi hz0 hz1 hz2 rfl (by decide) (.slice (some ⟨g, 0, none⟩) j c) _ _ rfl (Mo.alloc (Mo.alloc HR.out _) _) ⟨wr.heap.size + 1, 0, none⟩ 1 1 (msgCells y) rfl rfl HN.out (msgOne _) (by rw [HLg.out]; unfold maxLen; omega) (by rw [HLg.out]; omega) (Nat.zero_le _) ?_)
              intro v' w4 hown hgrow _ hat'
              obtain ⟨g', c', rfl, hg', hm4, hb4⟩ := fin2.out _ HZ.out v' w4 (by rw [← HLg.out]; first | exact hown | (rw [HLg.out]; exact hown)) hgrow hat'
              have HM4 : Hid _ := hm4
              have HB4 : Hid _ := hb4
              clear hm4 hb4 hown hgrow hat' HN HR fin2
              go_wp2
              go_roundw
              case rel => exact ⟨j + 1, g', c', by omega, by omega, hg', rfl, by go_num, HM4.out, HB4.out⟩
              case measure => simp [intOf]; omega
        · have F : Hid _ := fin (Or.inr hl1)
          clear fin hR hb
          go_wp2
          go_meet
          exact F.out
      · have F : Hid _ := fin (Or.inl hlt)
        clear fin hR hb
        go_wp2
        go_meet
        exact F.out
  case rest =>
    obtain ⟨D, g, c, rfl, hD, HD, hms, hb⟩ := hcut
    have HMs : Hid _ := hms
    have HB : Hid _ := hb
    have HDo : Hid (∀ m ∈ D, m.ok) := fun m hm => (HD.out m hm).1
    have hBl : (msgsB D).length ≤ 4010 := by
      have h1 := numB_len10 (n := D.length) (by omega)
      have h2 := mssB_len D HDo.out
      unfold msgsB
      rw [List.length_append]; omega
    have hsl : (str (msgsB D)).size = (msgsB D).length := rfl
    obtain ⟨S, hS⟩ : ∃ S, str (msgsB D) ++ (⟨#[120]⟩ : ByteArray) = S := ⟨_, rfl⟩
    have HS : Hid (str (msgsB D) ++ (⟨#[120]⟩ : ByteArray) = S) := hS
    have hsz1 : ¬ 9223372036854775807 < (str (msgsB D)).size + 1 := by rw [hsl]; omega
    have hSd : S.data.toList = msgsB D ++ [120] := by rw [← hS]; simp [str]
    have hSz : S.size = (msgsB D).length + 1 := by
      rw [← hS, ByteArray.size_append, hsl]; rfl
    have HE1 : Hid (rdML S 0 0 = (D, (msgsB D).length, 0)) := rdML_enc hSd HD.out (by omega)
    have HSz : Hid _ := hSz
    have hSm : S.size ≤ maxLen := by rw [hSz]; unfold maxLen; omega
    obtain ⟨⟨R, aq, eq⟩, hq⟩ : ∃ q, rdML s 0 0 = q := ⟨_, rfl⟩
    have HQ : Hid _ := hq
    have hsm : s.size ≤ maxLen := by unfold maxLen; omega
    have tkA : Hid True := trivial
    clear hms hb hS hSd hSz hq hsl
    go_upto_if 58 with (first
      | (go_at_call 6; refine (newwriter_any _).mono ?_; rintro r w1 ⟨rfl, hw1, hb1⟩; have W1 : Hid _ := hw1; have B1 : Hid _ := hb1; clear hw1 hb1)
      | (go_at_call 7; refine (putM_any D c W1.out (MsAt.kept HMs.out (Fr.ofBelow B1.out (fun _ => False)) (fun k hk _ => ⟨fun h => h, by omega, by simp [Value.ownBlock]⟩)) HDo.out (by omega) (by show ([] : List UInt8).length + 10 + 40 * D.length ≤ _; simp; omega)).mono ?_; rintro r w2 ⟨rfl, hT⟩; obtain ⟨v2, hwr, hf, _⟩ := hT; rw [List.nil_append] at hwr; have W2 : Hid _ := hwr; have B2 : Hid _ := pairW B1.out hf; clear hwr hf)
      | (go_at_call 9; refine (wall_any W2.out).mono ?_; rintro r wz ⟨rfl, hz⟩; rw [hz]; clear hz)
      | (go_at_call 8; first
        | (have _t := tkA; refine (newreader_any (str (msgsB D) ++ (⟨#[120]⟩ : ByteArray)) _).mono ?_; rintro r w3 ⟨rfl, hr3, hb3⟩; rw [HS.out] at hr3; have R3 : Hid _ := hr3; have B3 : Hid _ := hb3; clear hr3 hb3)
        | (refine (newreader_any s _).mono ?_; rintro r w5 ⟨rfl, hr5, hb5⟩; have R5 : Hid _ := hr5; have B5 : Hid _ := hb5; clear hr5 hb5))
      | (go_at_call 10; first
        | (have _t := tkA; refine (takeM_any R3.out hSm (Nat.zero_le _)).mono ?_; rintro r w4 ⟨v4, rfl, hT4⟩; rw [HE1.out] at hT4; obtain ⟨ao4, c4, rfl⟩ := hT4.own.shape; have R4 : Hid _ := hT4.rd; have M4 : Hid _ := MsAt.all (Mo.at_ hT4.own); have B4 : Hid _ := pairR B3.out hT4.fr; clear hT4 tkA)
        | (refine (takeM_any R5.out hsm (Nat.zero_le _)).mono ?_; rintro r w6 ⟨v6, rfl, hT6⟩; rw [HQ.out] at hT6; obtain ⟨ao6, c6, rfl⟩ := hT6.own.shape; have R6 : Hid _ := hT6.rd; have M6 : Hid _ := MsAt.all (Mo.at_ hT6.own); have B6 : Hid _ := pairR B5.out hT6.fr; clear hT6))
      | (go_at_call 11; refine (err_any R6.out).mono ?_; rintro r wz ⟨rfl, hz⟩; rw [hz]; clear hz))
    go_cut [13] (fun _ wx => Below w6.heap.size w6 wx)
    case first =>
      by_cases he : eq = 0
      · subst he
        obtain ⟨haq, htake, hRl, hRok⟩ := rdML_only HQ.out
        have hEq : Hid (str (msgsB R) = s.extract 0 aq) := by
          show _ = _
          rw [← htake]
          apply ByteArray.ext
          simp [str, ByteArray.data_extract]
          rw [← Array.toList_inj]
          simp [Array.toList_extract, List.extract]
        have HRo : Hid (∀ m ∈ R, m.ok) := fun m hm => (hRok m hm).1
        clear htake hRok
        go_wp2_with (first
          | (go_at_call 6; refine (newwriter_any _).mono ?_; rintro r w7 ⟨rfl, hw7, hb7⟩; have W7 : Hid _ := hw7; have B7 : Hid _ := hb7; clear hw7 hb7)
          | (go_at_call 7; refine (putM_any R c6 W7.out (MsAt.kept (MsAt.mono (Q := fun k => k < w6.heap.size) M6.out (fun k hk _ => hk)) (Fr.ofBelow B7.out (fun _ => False)) (fun k hk hp => ⟨fun h => h, by omega, by simp [Value.ownBlock]⟩)) HRo.out (by omega) (by show ([] : List UInt8).length + 10 + 40 * R.length ≤ _; simp; omega)).mono ?_; rintro r w8 ⟨rfl, hT⟩; obtain ⟨v8, hwr, hf, _⟩ := hT; rw [List.nil_append] at hwr; have W8 : Hid _ := hwr; have B8 : Hid _ := pairW B7.out hf; clear hwr hf)
          | (go_at_call 9; refine (wall_any W8.out).mono ?_; rintro r wz ⟨rfl, hz⟩; rw [hz, hEq.out]; clear hz)
          | (go_at_call 12; refine (at_any (Rd.newB R6.out B8.out)).mono ?_; rintro r wz ⟨rfl, hz⟩; rw [hz]; clear hz))
        go_meet
        exact B8.out
      · have heb : (eq == 0) = false := by simpa using he
        go_wp2
        go_meet
        exact Below.refl _ _
    case rest =>
      have b26 := B4.out.trans (B6.out.mono B4.out.size)
      have b2c := b26.trans (hcut.mono b26.size)
      have b4c := B6.out.trans (hcut.mono B6.out.size)
      have b0c := B2.out.trans (b2c.mono B2.out.size)
      have BX : Hid _ := HB.out.trans (b0c.mono HB.out.size)
      have WX : Hid _ := Wr.newB W2.out b2c
      have RX : Hid _ := Rd.newB R4.out b4c
      have MX : Hid _ := MsAt.new M4.out b4c
      have OX : Hid _ := MsAt.new HMs.out b0c
      have hlft : (S.size : Int) - ((msgsB D).length : Nat) = 1 := by rw [HSz.out]; omega
      have hlle : (msgsB D).length ≤ S.size := by rw [HSz.out]; omega
      have tkR : Hid True := trivial
      clear b26 b2c b4c b0c hcut B1 B2 B3 B4 B5 B6 W1 W2 R3 R4 R5 R6 M4 M6 HMs HB
      go_wp2_with (first
        | (go_at_call 13; refine (awake5 _).mono ?_; rintro r w9 ⟨rfl, hb9⟩; have B9 : Hid _ := hb9; clear hb9)
        | (go_at_call 9; refine (wall_any (Wr.newB WX.out B9.out)).mono ?_; rintro r wz ⟨rfl, hz⟩; rw [hz]; clear hz)
        | (go_at_call 15; first
          | (have _t := tkR; refine (ref_msgs D c (MsAt.new OX.out B9.out) (by omega)).mono ?_; rintro r w10 ⟨g10, c10, rfl, _, ho10, hb10⟩; have M10 : Hid _ := Mo.at_ ho10; have B10 : Hid _ := B9.out.trans (hb10.mono B9.out.size); clear ho10 hb10 tkR)
          | (refine (ref_msgs D c (MsAt.new OX.out B11.out) (by omega)).mono ?_; rintro r w12 ⟨g12, c12, rfl, _, ho12, hb12⟩; have M12 : Hid _ := Mo.at_ ho12; have B12 : Hid _ := B11.out.trans (hb12.mono B11.out.size); clear ho12 hb12))
        | (go_at_call 14; refine (refB_any D c10 M10.out HDo.out hD).mono ?_; rintro r w11 ⟨rfl, hb11⟩; have B11 : Hid _ := B10.out.trans (hb11.mono B10.out.size); clear hb11)
        | (go_at_call 16; refine (same_msgs D c4 c12 (MsAt.new MX.out B12.out) M12.out (by omega)).mono ?_; rintro r w13 ⟨rfl, hb13⟩; have B13 : Hid _ := B12.out.trans (hb13.mono B12.out.size); clear hb13)
        | (go_at_call 17; refine (left_any (Rd.newB RX.out B13.out) hSm hlle).mono ?_; rintro r w14 ⟨rfl, n14, hz⟩; rw [hlft]; have B14 : Hid _ := (hz ▸ m_drewN B13.out n14 : Below wc.heap.size wc w14); clear hz)
        | (go_at_call 11; refine (err_any (Rd.newB RX.out B14.out)).mono ?_; rintro r wz ⟨rfl, hz⟩; rw [hz]; clear hz))
      go_ret
      exact ⟨by simp, BX.out.trans (B14.out.mono BX.out.size)⟩
end Go.Proofs.Ytfajkfngjfhkoab
