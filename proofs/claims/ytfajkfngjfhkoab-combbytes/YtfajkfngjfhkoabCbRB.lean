/- The document's bytes of messages. -/
import Derived.Test.YtfajkfngjfhkoabCbBytes
import Derived.Test.YtfajkfngjfhkoabNumW2
import Derived.Deep.RegionHeld
namespace Go.Proofs.Ytfajkfngjfhkoab
open Go.RowKit
theorem m_refsg (k : Int) (w : World) (h : I64 k) :
    Calls Try.prog 31 #[.int .i64 k] w fun e w' => e = .returned (.string (str (sgB k))) ∧ Below w.heap.size w w' := by
  obtain ⟨h1, h2⟩ := h
  unfold sgB
  obtain ⟨m, HM⟩ : ∃ m : Nat, Hid (foldN k = m) := ⟨(foldN k).toNat, (Int.toNat_of_nonneg (fold_bd k h1 h2).1).symm⟩
  have hm : m < 18446744073709551616 := by have := fold_bd k h1 h2; have := HM.out; omega
  have hF : ∀ w, Calls Try.prog 44 #[.int .i64 k] w fun e w' => e = .returned (.int .u64 m) ∧ w' = w := fun w => by have := reffold_any k w h1 h2; rw [HM.out] at this; exact this
  rw [show (foldN k).toNat = m by rw [HM.out]; rfl]
  go_enter Try.func31, Try.ntmps31
  go_wp2_with (first
    | (go_at_call 44; refine (hF _).mono ?_; rintro r w1 ⟨rfl, rfl⟩)
    | (go_at_call 30; refine (refnumber_any m _ hm).mono ?_; rintro r w2 ⟨rfl, hh⟩))
  go_ret
  exact ⟨rfl, hh⟩
theorem m_add_str (a b : ByteArray) (h : a.size + b.size ≤ 9223372036854775807) (w : World) : (binOp .add 9 (.string a) (.string b)).run Try.prog w = .ok (.string (a ++ b)) w := by
  have hn : ¬ ((a.size + b.size : Nat) : Int) > IntKind.i64.max := by show ¬ ((a.size + b.size : Nat) : Int) > 9223372036854775807; omega
  simp only [binOp, Op.stringOp, if_neg hn]
  rfl
theorem m_keep3 {W w1 : World} {b o1 o2 o3 : Nat} {x y z : Value} (hb : Below W.heap.size W w1) (h : W.cell? ⟨b, o1, none⟩ = some x ∧ W.cell? ⟨b, o2, none⟩ = some y ∧ W.cell? ⟨b, o3, none⟩ = some z) : w1.cell? ⟨b, o1, none⟩ = some x ∧ w1.cell? ⟨b, o2, none⟩ = some y ∧ w1.cell? ⟨b, o3, none⟩ = some z :=
  ⟨(hb.cell (p := ⟨b, o1, none⟩) (lt_cell h.1)).trans h.1, (hb.cell (p := ⟨b, o2, none⟩) (lt_cell h.1)).trans h.2.1, (hb.cell (p := ⟨b, o3, none⟩) (lt_cell h.1)).trans h.2.2⟩
theorem m_below_d {w w' : World} (h : Below w.drew.heap.size w.drew w') : Below w.heap.size w w' := ⟨h.os, h.tape, h.output, h.size, h.block⟩
set_option maxRecDepth 100000 in
set_option maxHeartbeats 2000000 in
theorem refB_any {w : World} {P : Nat → Prop} {ao : Option Addr} (L : List Msg) (cap : Nat) (hE : MsAt w P ao L) (hok : ∀ m ∈ L, m.ok) (hl : L.length ≤ 100) :
    Calls Try.prog 14 #[.slice ao L.length cap] w fun r w' => r = .returned (.string (str (msgsB L))) ∧ Below w.heap.size w w' := by
  have hcv : IntKind.u64.wrap (L.length : Int) = (L.length : Int) := by rw [IntKind.wrap_u64]; omega
  have HE : Hid _ := hE
  have HO : Hid _ := hok
  clear hE hok
  go_enter Try.func14, Try.ntmps14
  go_wp2_with (go_at_call 30; refine (refnumber_any L.length _ (by omega)).mono ?_; rintro r w1 ⟨rfl, hb1⟩)
  go_loopw [3, 4, 5] (fun u i _ wr => ∃ k : Nat, k ≤ L.length ∧ i = .int .i64 k ∧ u = .string (str (numB L.length ++ (L.take k).flatMap msB)) ∧ Below w.heap.size w wr) (fun _ i _ _ => L.length - (intOf i).toNat)
  case atStart => exact ⟨0, Nat.zero_le _, rfl, by simp, hb1⟩
  case round =>
    obtain ⟨k, hk, rfl, rfl, hb⟩ := hrel
    clear hb1
    by_cases hlt : k < L.length
    · obtain ⟨b, off, rfl, hP, hc⟩ := HE.out (by omega)
      obtain ⟨e0, e1, e2, e3⟩ := hc k hlt
      have d0 := (hb.cell (p := ⟨b, off + k * 4, none⟩) (lt_cell e0)).trans e0
      have d1 := (hb.cell (p := ⟨b, off + k * 4 + 1, none⟩) (lt_cell e0)).trans e1
      have d2 := (hb.cell (p := ⟨b, off + k * 4 + 2, none⟩) (lt_cell e0)).trans e2
      have d3 := (hb.cell (p := ⟨b, off + k * 4 + 3, none⟩) (lt_cell e0)).trans e3
      have HS : Hid _ := ms_snoc L k hlt
      have HZ : Hid (L[k].ok) := HO.out _ (List.getElem_mem hlt)
      have hA : (str (numB L.length ++ (L.take k).flatMap msB)).size ≤ 10000 := by
        have h1 := numB_len10 (n := L.length) (by omega)
        have h2 := mssB_len (L.take k) (fun e he => HO.out e (List.mem_of_mem_take he))
        rw [List.length_take] at h2
        show (numB L.length ++ (L.take k).flatMap msB).length ≤ 10000
        rw [List.length_append]; omega
      generalize L[k] = z at d0 d1 d2 d3 HS HZ
      have s1 : (str (sgB z.f)).size ≤ 10 := sgB_len HZ.out.f
      have s2 : (str (sgB z.t)).size ≤ 10 := sgB_len HZ.out.t
      have s3 : (str (numB z.a.toNat)).size ≤ 10 := numB_len10 (by have := HZ.out.a.2; omega)
      have s4 : (str (sgB z.v)).size ≤ 10 := sgB_len HZ.out.v
      have hza := HZ.out.a
      obtain ⟨nn, hnn⟩ : ∃ nn : Nat, z.a.toNat = nn := ⟨_, rfl⟩
      have hnlt : nn < 18446744073709551616 := by have := hza.2; omega
      rw [hnn] at s3
      have hn1 := m_add_str (str (sgB z.f)) (str (sgB z.t)) (by omega)
      have hn2 := m_add_str (str (sgB z.f) ++ str (sgB z.t)) (str (numB nn)) (by rw [ByteArray.size_append]; omega)
      have hn3 := m_add_str (str (sgB z.f) ++ str (sgB z.t) ++ str (numB nn)) (str (sgB z.v)) (by rw [ByteArray.size_append, ByteArray.size_append]; omega)
      have hn4 := m_add_str (str (numB L.length ++ (L.take k).flatMap msB)) (str (sgB z.f) ++ str (sgB z.t) ++ str (numB nn) ++ str (sgB z.v)) (by rw [ByteArray.size_append, ByteArray.size_append, ByteArray.size_append]; omega)
      have HN : Hid (str (numB L.length ++ (L.take k).flatMap msB) ++ (str (sgB z.f) ++ str (sgB z.t) ++ str (numB nn) ++ str (sgB z.v)) = str (numB L.length ++ (L.take (k + 1)).flatMap msB)) := by
        show _ = _
        rw [HS.out, ← hnn]
        simp only [str_append]
        unfold msB
        simp only [List.append_assoc]
      have hwu : IntKind.u64.wrap (nn : Int) = (nn : Int) := by rw [IntKind.wrap_u64]; omega
      generalize str (numB L.length ++ (L.take k).flatMap msB) = S0 at hA hn4 HN ⊢
      have HNn : Hid _ := hnn
      have HB : Hid _ := hb
      have x0 : wr.cell? ⟨b, off + k * 4, none⟩ = some (.int .i64 z.f) ∧ wr.cell? ⟨b, off + k * 4 + 1, none⟩ = some (.int .i64 z.t) ∧ wr.cell? ⟨b, off + k * 4 + 3, none⟩ = some (.int .i64 z.v) := ⟨d0, d1, d3⟩
      clear hc e0 e1 e2 e3 hnn hb HS
      by_cases hpos : 0 < z.a
      · have hea : z.a = (nn : Int) := by have := HNn.out; omega
        rw [hea] at d2
        have hp2 : 0 < nn := by omega
        clear hea hpos hza
        have tk1 : Hid True := trivial
        go_upto_region 8 with fail
        go_region_held (fun w' => w'.cell? ⟨b, off + k * 4, none⟩ = some (.int .i64 z.f) ∧ w'.cell? ⟨b, off + k * 4 + 1, none⟩ = some (.int .i64 z.t) ∧ w'.cell? ⟨b, off + k * 4 + 3, none⟩ = some (.int .i64 z.v)) (first | exact x4 | exact x3 | exact x2 | exact x1 | exact x0)
          (first
          | (go_at_call 31; first
            | (have _t := tk1; refine (m_refsg z.f _ HZ.out.f).mono ?_; rintro r v1 ⟨rfl, hb1⟩; have b1 := m_below_d hb1; have B1 : Hid _ := b1; have x1 := m_keep3 b1 x0; clear hb1 b1 tk1; have tk2 : Hid True := trivial)
            | (have _t := tk2; refine (m_refsg z.t _ HZ.out.t).mono ?_; rintro r v2 ⟨rfl, hb2⟩; have B2 : Hid _ := B1.out.trans (hb2.mono B1.out.size); have x2 := m_keep3 hb2 x1; clear hb2 tk2)
            | (refine (m_refsg z.v _ HZ.out.v).mono ?_; rintro r v4 ⟨rfl, hb4⟩; have B4 : Hid _ := B3.out.trans (hb4.mono B3.out.size); have x4 := m_keep3 hb4 x3; clear hb4))
          | (go_at_call 30; refine (refnumber_any nn _ (by omega)).mono ?_; rintro r v3 ⟨rfl, hb3⟩; have B3 : Hid _ := B2.out.trans (hb3.mono B2.out.size); have x3 := m_keep3 hb3 x2; clear hb3))
        all_goals
          have hB4 := HB.out.trans (B4.out.mono HB.out.size)
          have HB4 : Hid _ := hB4
          clear hB4 x0 x1 x2 x3 x4 hn1 hn2 hn3 hn4 s1 s2 s3 s4 d0 d1 d2 d3
          go_wp2
          go_roundw
          case rel => exact ⟨k + 1, by omega, by go_num, by rw [← HN.out], HB4.out⟩
          case measure => simp [intOf]; omega
      · have hea : nn = 0 := by have := HNn.out; omega
        subst hea
        have tk1 : Hid True := trivial
        clear hza
        go_upto_region 8 with fail
        go_region_held (fun w' => w'.cell? ⟨b, off + k * 4, none⟩ = some (.int .i64 z.f) ∧ w'.cell? ⟨b, off + k * 4 + 1, none⟩ = some (.int .i64 z.t) ∧ w'.cell? ⟨b, off + k * 4 + 3, none⟩ = some (.int .i64 z.v)) (first | exact x4 | exact x3 | exact x2 | exact x1 | exact x0)
          (first
          | (go_at_call 31; first
            | (have _t := tk1; refine (m_refsg z.f _ HZ.out.f).mono ?_; rintro r v1 ⟨rfl, hb1⟩; have b1 := m_below_d hb1; have B1 : Hid _ := b1; have x1 := m_keep3 b1 x0; clear hb1 b1 tk1; have tk2 : Hid True := trivial)
            | (have _t := tk2; refine (m_refsg z.t _ HZ.out.t).mono ?_; rintro r v2 ⟨rfl, hb2⟩; have B2 : Hid _ := B1.out.trans (hb2.mono B1.out.size); have x2 := m_keep3 hb2 x1; clear hb2 tk2)
            | (refine (m_refsg z.v _ HZ.out.v).mono ?_; rintro r v4 ⟨rfl, hb4⟩; have B4 : Hid _ := B3.out.trans (hb4.mono B3.out.size); have x4 := m_keep3 hb4 x3; clear hb4))
          | (go_at_call 30; refine (refnumber_any 0 _ (by omega)).mono ?_; rintro r v3 ⟨rfl, hb3⟩; have B3 : Hid _ := B2.out.trans (hb3.mono B2.out.size); have x3 := m_keep3 hb3 x2; clear hb3))
        all_goals
          have hB4 := HB.out.trans (B4.out.mono HB.out.size)
          have HB4 : Hid _ := hB4
          clear hB4 x0 x1 x2 x3 x4 hn1 hn2 hn3 hn4 s1 s2 s3 s4 d0 d1 d2 d3
          go_wp2
          go_roundw
          case rel => exact ⟨k + 1, by omega, by go_num, by rw [← HN.out], HB4.out⟩
          case measure => simp [intOf]; omega
    · obtain rfl : k = L.length := by omega
      rw [List.take_length]
      go_wp2
      go_ret
      exact ⟨by unfold msgsB; rfl, hb⟩
end Go.Proofs.Ytfajkfngjfhkoab
