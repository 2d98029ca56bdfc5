/- TakeMessages: messages off bytes. -/
import Derived.Test.YtfajkfngjfhkoabCbBytes
import Derived.Test.YtfajkfngjfhkoabReader2
import Derived.Test.YtfajkfngjfhkoabGrTakeM
namespace Go.Proofs.Ytfajkfngjfhkoab
open Go.RowKit
/-- A message, off bytes. -/
def rdM (s : ByteArray) (a : Nat) (e : Int) : Msg × Nat × Int :=
  let p := rdNum s a e
  let q := rdNum s p.2.1 p.2.2
  let c := rdCount s q.2.1 q.2.2 65536
  let r := rdNum s c.2.1 c.2.2
  (⟨unfoldN p.1, unfoldN q.1, c.1, unfoldN r.1⟩, r.2)
/-- So many messages behind others; none is told where there is an error. -/
def rdMs (s : ByteArray) : Nat → Nat → Int → List Msg → List Msg × Nat × Int
  | 0, a, e, L => (L, a, e)
  | n + 1, a, e, L => if (rdM s a e).2.2 = 0 then rdMs s n (rdM s a e).2.1 0 (L ++ [(rdM s a e).1]) else ([], (rdM s a e).2)
def rdML (s : ByteArray) (a : Nat) (e : Int) : List Msg × Nat × Int :=
  let c := rdCount s a e 65536
  rdMs s c.1 c.2.1 c.2.2 []
theorem rdM_eq {s : ByteArray} {a t1 a1 t2 a2 n3 a3 t4 a4 : Nat} {e e1 e2 e3 e4 : Int} (h1 : rdNum s a e = (t1, a1, e1)) (h2 : rdNum s a1 e1 = (t2, a2, e2)) (h3 : rdCount s a2 e2 65536 = (n3, a3, e3)) (h4 : rdNum s a3 e3 = (t4, a4, e4)) :
    rdM s a e = (⟨unfoldN t1, unfoldN t2, n3, unfoldN t4⟩, a4, e4) := by
  unfold rdM; simp only [h1, h2, h3, h4]
theorem m_rsg {w : World} {p : Nat} {s : ByteArray} {a : Nat} {e : Int} (h : Rd w p s a e) (hs : s.size ≤ maxLen) (ha : a ≤ s.size) {n a' : Nat} {e' : Int} (hq : rdNum s a e = (n, a', e')) :
    Calls Try.prog 28 #[.pointer (some ⟨p, 0, none⟩)] w fun r w' => r = .returned (.int .i64 (unfoldN n)) ∧ Rd w' p s a' e' ∧ Fr w w' (fun k => k = p) := by
  have := rsigned_any h hs ha
  rw [hq] at this
  exact this
theorem m_rct {w : World} {p : Nat} {s : ByteArray} {a : Nat} {e : Int} (h : Rd w p s a e) (hs : s.size ≤ maxLen) (ha : a ≤ s.size) {n a' : Nat} {e' : Int} (hq : rdCount s a e 65536 = (n, a', e')) :
    Calls Try.prog 27 #[.pointer (some ⟨p, 0, none⟩), .int .i64 65536] w fun r w' => r = .returned (.int .i64 n) ∧ Rd w' p s a' e' ∧ Fr w w' (fun k => k = p) := by
  have := rcount_any (most := 65536) h hs ha (by decide)
  rw [hq] at this
  exact this
theorem unf_ok {n : Nat} (h : n < 18446744073709551616) : I64 (unfoldN n) := unfold_bd n (by omega) (by omega)
/-- Between two messages. -/
structure TM (w wr : World) (p : Nat) (s : ByteArray) (v : Value) (L : List Msg) (x : Nat) (y : Int) : Prop where
  rd : Rd wr p s x y
  fr : Fr w wr (fun k => k = p)
  own : Mo wr 24 v L
  new : ∀ k, v.ownBlock = some k → w.heap.size ≤ k
  plt : p < w.heap.size
theorem TM.step {w wr w1 : World} {p : Nat} {s : ByteArray} {v : Value} {L : List Msg} {x x1 : Nat} {y y1 : Int} (h : TM w wr p s v L x y) (hf : Fr wr w1 (fun k => k = p)) (hr : Rd w1 p s x1 y1) : TM w w1 p s v L x1 y1 :=
  ⟨hr, h.fr.trans hf (fun _ _ h => h), h.own.fr hf (fun k hk e => by have := h.new k hk; have := h.plt; omega), h.new, h.plt⟩
theorem TM.al {w wr : World} {p : Nat} {s : ByteArray} {v : Value} {L : List Msg} {x : Nat} {y : Int} (h : TM w wr p s v L x y) (o : Obj) : TM w (wr.alloc o) p s v L x y :=
  ⟨h.rd.kept (Fr.alloc wr o (fun _ => False)) (fun h => h), h.fr.trans (Fr.alloc wr o _) (fun _ _ h => h), h.own.alloc o, h.new, h.plt⟩
theorem TM.app {w wr w1 : World} {p : Nat} {s : ByteArray} {v v' : Value} {L : List Msg} {x : Nat} {y : Int} {m : Msg} (h : TM w wr p s v L x y) (hown : w1.ownsRow 0 24 4 v' (L.length + 1) (L.flatMap msgCells ++ msgCells m)) (hg : wr.grownBy w1 v.ownBlock) (hat : v'.ownBlock = v.ownBlock ∨ v'.ownBlock = some wr.heap.size) : TM w w1 p s v' (L ++ [m]) x y := by
  have f : Fr wr w1 (fun k => v.ownBlock = some k) := Fr.grown hg (fun k hk => hk)
  refine ⟨h.rd.kept f (fun e => by have := h.new _ e; have := h.plt; omega), ?_, Mo.snoc hown, fun k hk => ?_, h.plt⟩
  · exact h.fr.trans f (fun k hk e => by have := h.new k e; omega)
  · rcases hat with e | e
    · rw [e] at hk; exact h.new k hk
    · rw [e] at hk; cases hk; exact h.fr.size
set_option maxRecDepth 100000 in
set_option maxHeartbeats 2000000 in
theorem takeM_any {w : World} {p : Nat} {s : ByteArray} {a : Nat} {e : Int} (h : Rd w p s a e) (hs : s.size ≤ maxLen) (ha : a ≤ s.size) :
    Calls Try.prog 10 #[.pointer (some ⟨p, 0, none⟩)] w fun r w' => ∃ v, r = .returned v ∧ TM w w' p s v (rdML s a e).1 (rdML s a e).2.1 (rdML s a e).2.2 := by
  obtain ⟨i0, hi, hz0, hz1, hz2⟩ := info_parts infoMsg
  obtain ⟨⟨n, a1, e1⟩, h1⟩ : ∃ q, rdCount s a e 65536 = q := ⟨_, rfl⟩
  have g1 := rdCount_to (most := 65536) ha h1
  have HV : Hid (rdML s a e = rdMs s n a1 e1 []) := by
    show _ = _
    unfold rdML; simp only [h1]
  have H1 : Hid _ := h1
  have hn := g1.2.1
  have G1 : Hid _ := g1
  rw [HV.out]
  have H : Hid _ := h
  have hlt := h.lt
  clear h1 g1 h
  go_enter Try.func10, Try.ntmps10
  go_wp2_with (go_at_call 27; refine (m_rct H.out hs ha H1.out).mono ?_; rintro r w1 ⟨rfl, hr1, hf1⟩)
  have hTM : TM w w1 p s (.slice none 0 0) [] a1 e1 := ⟨hr1, hf1, Mo.nil _ _, fun k hk => (by cases hk), hlt⟩
  clear hr1 hf1
  go_loopw [2, 3, 4, 7] (fun _ u _ i wr => ∃ (j : Nat) (L : List Msg) (x : Nat) (y : Int) (ao : Option Addr) (c : Nat), j ≤ n ∧ u = .slice ao L.length c ∧ i = .int .i64 j ∧ Hid (rdMs s n a1 e1 [] = rdMs s (n - j) x y L) ∧ Hid (x ≤ s.size ∧ L.length = j ∧ (j < n → y = 0)) ∧ TM w wr p s (.slice ao L.length c) L x y) (fun _ _ _ i _ => n - (intOf i).toNat)
  case atStart => exact ⟨0, [], a1, e1, none, 0, Nat.zero_le _, rfl, rfl, (rfl : rdMs s n a1 e1 [] = rdMs s (n - 0) a1 e1 []), ⟨G1.out.1, rfl, G1.out.2.2.2⟩, hTM⟩
  case round =>
    obtain ⟨j, L, x, y, ao, c, hj, rfl, rfl, HS, HX, hT⟩ := hrel
    clear hTM
    by_cases hjn : j < n
    · obtain rfl : y = 0 := HX.out.2.2 hjn
      obtain ⟨⟨t1, x1, y1⟩, q1⟩ : ∃ q, rdNum s x 0 = q := ⟨_, rfl⟩
      obtain ⟨⟨t2, x2, y2⟩, q2⟩ : ∃ q, rdNum s x1 y1 = q := ⟨_, rfl⟩
      obtain ⟨⟨n3, x3, y3⟩, q3⟩ : ∃ q, rdCount s x2 y2 65536 = q := ⟨_, rfl⟩
      obtain ⟨⟨t4, x4, y4⟩, q4⟩ : ∃ q, rdNum s x3 y3 = q := ⟨_, rfl⟩
      have g1 := rdNum_to HX.out.1 q1
      have g2 := rdNum_to g1.1 q2
      have g3 := rdCount_to (most := 65536) g2.1 q3
      have g4 := rdNum_to g3.1 q4
      have HM : Hid (rdM s x 0 = (⟨unfoldN t1, unfoldN t2, n3, unfoldN t4⟩, x4, y4)) := rdM_eq q1 q2 q3 q4
      have HNJ : Hid (rdMs s (n - j) x 0 L = if y4 = 0 then rdMs s (n - (j + 1)) x4 0 (L ++ [⟨unfoldN t1, unfoldN t2, n3, unfoldN t4⟩]) else ([], x4, y4)) := by
        show _ = _
        rw [show n - j = (n - (j + 1)) + 1 by omega]
        show (if (rdM s x 0).2.2 = 0 then _ else _) = _
        rw [HM.out]
      have Q1 : Hid _ := q1
      have Q2 : Hid _ := q2
      have Q3 : Hid _ := q3
      have Q4 : Hid _ := q4
      have GG1 : Hid _ := g1
      have GG2 : Hid _ := g2
      have GG3 : Hid _ := g3
      have GG4 : Hid _ := g4
      have HT : Hid _ := hT
      have tk1 : Hid True := trivial
      clear q1 q2 q3 q4 g1 g2 g3 g4 HM hT
      have arms : True := trivial
      by_cases hy : y4 = 0
      · subst hy
        have HNN : Hid (rdMs s (n - j) x 0 L = rdMs s (n - (j + 1)) x4 0 (L ++ [⟨unfoldN t1, unfoldN t2, n3, unfoldN t4⟩])) := by show _ = _; rw [HNJ.out, if_pos rfl]
        clear HNJ
        go_wp2_with (first
          | (go_at_call 28; first
            | (have _t := tk1; refine (m_rsg HT.out.rd hs HX.out.1 Q1.out).mono ?_; rintro r v1 ⟨rfl, hr, hf⟩; have T1 : Hid _ := HT.out.step hf hr; clear tk1 hr hf; have tk2 : Hid True := trivial)
            | (have _t := tk2; refine (m_rsg T1.out.rd hs GG1.out.1 Q2.out).mono ?_; rintro r v2 ⟨rfl, hr, hf⟩; have T2 : Hid _ := T1.out.step hf hr; clear tk2 hr hf)
            | (refine (m_rsg T3.out.rd hs GG3.out.1 Q4.out).mono ?_; rintro r v4 ⟨rfl, hr, hf⟩; have T4 : Hid _ := T3.out.step hf hr; clear hr hf))
          | (go_at_call 27; refine (m_rct T2.out.rd hs GG2.out.1 Q3.out).mono ?_; rintro r v3 ⟨rfl, hr, hf⟩; have T3 : Hid _ := T2.out.step hf hr; clear hr hf)
          | (go_at_call 11; refine (err_any (T4.out.al (.cells #[.int .i64 (unfoldN t1), .int .i64 (unfoldN t2), .int .i64 n3, .int .i64 (unfoldN t4)] 24)).rd).mono ?_; rintro r v5 ⟨rfl, rfl⟩)
          | (at_builtin; refine wpList_append_own_at _ rfl _ _ 22 rfl 0 24 i0 (.agg #[.int .i64 0, .int .i64 0, .int .i64 0, .int .i64 0]) 4 32 Try.underlying22 hi hz0 hz1 hz2 rfl (by decide) (.slice ao L.length c) _ _ rfl ((T4.out.al (.cells #[.int .i64 (unfoldN t1), .int .i64 (unfoldN t2), .int .i64 n3, .int .i64 (unfoldN t4)] 24)).al (.cells #[.int .i64 (unfoldN t1), .int .i64 (unfoldN t2), .int .i64 n3, .int .i64 (unfoldN t4)] 24)).own ⟨v4.heap.size + 1, 0, none⟩ 1 1 (msgCells ⟨unfoldN t1, unfoldN t2, n3, unfoldN t4⟩) rfl rfl (m_four (by have := heap_alloc_new (v4.alloc (.cells #[.int .i64 (unfoldN t1), .int .i64 (unfoldN t2), .int .i64 n3, .int .i64 (unfoldN t4)] 24)) (.cells #[.int .i64 (unfoldN t1), .int .i64 (unfoldN t2), .int .i64 n3, .int .i64 (unfoldN t4)] 24); rw [World.size_alloc] at this; exact this)) (msgOne _) (by have := HX.out.2.1; unfold maxLen; omega) (by have := HX.out.2.1; omega) (Nat.zero_le _) ?_))
        intro v' w4 hown hgrow _ hat
        have hT5 := ((T4.out.al (.cells #[.int .i64 (unfoldN t1), .int .i64 (unfoldN t2), .int .i64 n3, .int .i64 (unfoldN t4)] 24)).al (.cells #[.int .i64 (unfoldN t1), .int .i64 (unfoldN t2), .int .i64 n3, .int .i64 (unfoldN t4)] 24)).app hown hgrow (by rw [World.size_alloc, World.size_alloc]; exact hat)
        obtain ⟨ao', c', rfl⟩ := hT5.own.shape
        have HT5 : Hid _ := hT5
        clear hT5 hown hgrow hat T1 T2 T3 T4 HT
        go_wp2
        go_roundw
        case rel =>
          refine ⟨j + 1, L ++ [⟨unfoldN t1, unfoldN t2, n3, unfoldN t4⟩], x4, 0, ao', c', by omega, rfl, by go_num, ?_, ⟨GG4.out.1, by rw [List.length_append, HX.out.2.1]; rfl, fun _ => rfl⟩, HT5.out⟩
          show _ = _
          rw [HS.out, HNN.out]
        case measure => simp [intOf]; omega
      · have hyb : (y4 != 0) = true := by simpa using hy
        have HNN : Hid (rdMs s n a1 e1 [] = ([], x4, y4)) := by show _ = _; rw [HS.out, HNJ.out, if_neg hy]
        clear HNJ
        go_wp2_with (first
          | (go_at_call 28; first
            | (have _t := tk1; refine (m_rsg HT.out.rd hs HX.out.1 Q1.out).mono ?_; rintro r v1 ⟨rfl, hr, hf⟩; have T1 : Hid _ := HT.out.step hf hr; clear tk1 hr hf; have tk2 : Hid True := trivial)
            | (have _t := tk2; refine (m_rsg T1.out.rd hs GG1.out.1 Q2.out).mono ?_; rintro r v2 ⟨rfl, hr, hf⟩; have T2 : Hid _ := T1.out.step hf hr; clear tk2 hr hf)
            | (refine (m_rsg T3.out.rd hs GG3.out.1 Q4.out).mono ?_; rintro r v4 ⟨rfl, hr, hf⟩; have T4 : Hid _ := T3.out.step hf hr; clear hr hf))
          | (go_at_call 27; refine (m_rct T2.out.rd hs GG2.out.1 Q3.out).mono ?_; rintro r v3 ⟨rfl, hr, hf⟩; have T3 : Hid _ := T2.out.step hf hr; clear hr hf)
          | (go_at_call 11; refine (err_any (T4.out.al (.cells #[.int .i64 (unfoldN t1), .int .i64 (unfoldN t2), .int .i64 n3, .int .i64 (unfoldN t4)] 24)).rd).mono ?_; rintro r v5 ⟨rfl, rfl⟩))
        go_ret
        refine ⟨_, rfl, ?_⟩
        rw [HNN.out]
        have := T4.out.al (.cells #[.int .i64 (unfoldN t1), .int .i64 (unfoldN t2), .int .i64 n3, .int .i64 (unfoldN t4)] 24)
        exact ⟨this.rd, this.fr, Mo.nil _ _, fun k hk => (by cases hk), this.plt⟩
    · obtain rfl : j = n := by omega
      have HT : Hid _ := hT
      have HNN : Hid (rdMs s j a1 e1 [] = (L, x, y)) := by
        show _ = _
        rw [HS.out, Nat.sub_self]; rfl
      clear hT
      go_wp2
      go_ret
      refine ⟨_, rfl, ?_⟩
      rw [HNN.out]
      exact HT.out
end Go.Proofs.Ytfajkfngjfhkoab
