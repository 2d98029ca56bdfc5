/- Proved: for every act, cohortlaw01.WireNil returns true, and its argument reads as it did. No condition. -/
import Derived.Test.YthlmohbpedcmfaaRows
import Derived.Test.YthlmohbpedcmfaaNilW
import Derived.WalkKit
import Derived.ProofKit
import Derived.OpenShut
import Derived.ShutString
import Derived.ChangeOld
import Derived.Below
import Derived.SizedLaws
import Derived.Lib.SmallJoins
namespace Go.Proofs.Ythlmohbpedcmfaa
open Go.RowKit
theorem act1 {w w1 : World} {u0 u1 u2 u3 : Value} (hb : Below (w.alloc (.cells #[u0, u1, u2, u3] 45)).heap.size (w.alloc (.cells #[u0, u1, u2, u3] 45)) w1) : w1.heap[w.heap.size]? = some (.cells #[u0, u1, u2, u3] 45 (0, 0)) :=
  (hb.block w.heap.size (by simp)).trans (heap_alloc_new _ _)
set_option maxRecDepth 100000 in
set_option maxHeartbeats 1000000 in
theorem law_nil (k n : Int) (x : Nat) (s : ByteArray) (w : World) (hn : -9223372036854775808 ≤ n) (hn' : n ≤ 9223372036854775807) (hx : x < 18446744073709551616) (hs : s.size + 4096 ≤ 140737488355328) :
    Calls Try.prog 7 #[.agg #[.int .i64 k, .int .i64 n, .int .u64 x, .string s]] w fun e w' => e = .returned (.bool true) ∧ Below w.heap.size w w' := by
  have hP := fun w => put_nil k n x s w hn hn' hx hs
  have hem : ((ByteArray.empty).toList == ({ data := #[] } : ByteArray).toList) = true := by simp
  clear hx hs
  go_enter Try.func7, Try.ntmps7
  go_wp2_with (first
    | (go_at_call 28; refine (hP _).mono ?_; rintro e w1 ⟨⟨t, rfl⟩, hb1⟩; have hB := act1 hb1; have c1 : w1.cell? ⟨w.heap.size, 1, none⟩ = some (.int .i64 n) := (by simp [World.cell?, hB]))
    | (go_at_call 9; refine (awake_any _).mono ?_; rintro e w2 ⟨rfl, hb2⟩; have c2 : w2.cell? ⟨w.heap.size, 1, none⟩ = some (.int .i64 n) := (hb2.cell (p := ⟨w.heap.size, 1, none⟩) (World.block_lt_of_cell? _ _ c1)).trans c1)
    | (go_at_call 37; refine (rf _ _).mono ?_; rintro e wz ⟨rfl, rfl⟩)
    | (go_at_call 31; refine (rb _ _).mono ?_; rintro e wz ⟨rfl, rfl⟩)
    | (go_at_call 32; refine (rn _).mono ?_; rintro e wz ⟨rfl, rfl⟩)
    | (go_at_call 33; refine (rs _).mono ?_; rintro e wz ⟨rfl, rfl⟩)
    | (go_at_call 38; refine (rc _ _).mono ?_; rintro e wz ⟨rfl, rfl⟩)
    | (go_at_call 34; refine (rt _).mono ?_; rintro e wz ⟨rfl, rfl⟩)
    | (go_at_call 35; refine (rbo _).mono ?_; rintro e wz ⟨rfl, rfl⟩)
    | (go_at_call 24; refine (re _).mono ?_; rintro e wz ⟨rfl, rfl⟩)
    | (go_at_call 36; refine (ren _).mono ?_; rintro e wz ⟨rfl, rfl⟩)
    | (go_at_call 25; refine (ra _).mono ?_; rintro e wz ⟨rfl, rfl⟩)
    | (go_at_call 26; refine (rl _).mono ?_; rintro e wz ⟨rfl, rfl⟩)
    | (go_at_call 29; refine (nle _).mono ?_; rintro e wz ⟨rfl, rfl⟩)
    | (go_at_call 30; refine (nal _).mono ?_; rintro e wz ⟨rfl, rfl⟩))
  go_ret
  have ha := (Below.refl w.heap.size w).alloc (Nat.le_refl _) (.cells #[.int .i64 k, .int .i64 n, .int .u64 x, .string s] 45)
  have hb := ha.trans (hb1.mono (by simp))
  exact ⟨rfl, hb.trans (hb2.mono hb.size)⟩
end Go.Proofs.Ythlmohbpedcmfaa
namespace Go.Proofs.Ythlmohbpedcmfaa.wireNil
open Go.ChangeShapes Go.WideShapes Go.ChangeAt Go.RowKit Go.Joins
theorem own : ownKnob Try.prog.godebug = none := by kernel_rfl
theorem laidOut : laidOutB Try.prog = true := by kernel_rfl
theorem cellsA : Try.prog.cellsOf 45 = 4 := by kernel_rfl

set_option maxRecDepth 100000 in
theorem lifted (os : Os) (started : os.Started) (H : Type) (enc : TypeId × Value → H) :
    ReturnsInHanded {} Try.checked os 7 .any (Rows.wireNilSpec.pre6 enc Try.prog Try.f7 Rows.wireNilRow.domain false) (Rows.wireNilSpec.post enc Try.prog Try.f7 false true false false) := by
  refine returnsInHanded_of_change_sized (C := Try.checked) own started (by kernel_rfl) Try.func7
    (ChangeSpec.witness6 (enc := enc) (C := Try.checked) false ⟨#[], #[.agg #[.int .i64 0, .int .i64 0, .int .u64 0, .string ByteArray.empty]], []⟩ 8 (by kernel_rfl) (by kernel_rfl) (by kernel_rfl) (by kernel_rfl)) ?_
  intro W base args ds gs before hval0 hW hcnd hsz0 _
  have hval : ∀ (j : Nat) t v, Try.f7.params[j]? = some t → args[j]? = some v → Value.okWide Try.prog W .any base t v := hval0
  have hsz : (DataW.weightsEach Try.prog (Try.f7.params.toList ++ Rows.wireNilSpec.plain.varTypes Try.prog) (ds ++ gs)).all (· ≤ reachBytes) = true := hsz0
  have hW' := hW
  obtain ⟨p, q, hA0, hV, rfl, hfz, hnd⟩ := hW
  have hA : DataW.TrodAll enc Try.prog W 0 (fun _ => true) true Try.f7.params.toList args.toList ds p := hA0
  rw [Try.params7] at hA hval hsz
  obtain ⟨v0, vs0, d0, ds0, p0, q0, hargs, rfl, rfl, h0, r0⟩ := trodAll_cons hA
  obtain ⟨rfl, rfl, rfl⟩ := trodAll_nil r0
  obtain rfl : args = #[v0] := by cases args; simp_all
  obtain ⟨rfl, rfl⟩ := trodVars_none hV
  have k0 := h0
  have lt0 : ∀ x ∈ p0, x.block < W.heap.size := by obtain ⟨m, hm⟩ := k0; exact DataW.trod_lt m _ _ _ hm
  obtain ⟨c0, c1, c2, c3, y0, y1, y2, y3, m, rfl, rfl, hp, hy0, hy1, hy2, hy3⟩ := open_agg4 Try.underlying45 (by kernel_rfl) cellsA (hval 0 45 v0 rfl rfl) h0
  obtain ⟨a, e0, rfl, wa⟩ := DataW.trod_int Try.underlying3 hy0
  obtain ⟨b, e1, rfl, wb⟩ := DataW.trod_int Try.underlying3 hy1
  obtain ⟨c, e2, rfl, wc⟩ := DataW.trod_int Try.underlying22 hy2
  obtain ⟨s, e3, rfl, ws⟩ := DataW.trod_string Try.underlying9 hy3
  simp at e0 e1 e2 e3
  subst e0 e1 e2 e3
  have hw : s.data.toList.length ≤ reachBytes := by
    have h : (DataW.weightsEach Try.prog [45] [DataW.agg (H := H) [.lit (.int .i64 a), .lit (.int .i64 b), .lit (.int .u64 c), .lit (.string s.data.toList)]]).all (· ≤ reachBytes) = true := hsz
    simp only [DataW.weightsEach, DataW.weights, Try.underlying45] at h
    simpa [DataW.weightsEach, DataW.weights] using h
  have hz : s.size + 4096 ≤ 140737488355328 := by unfold reachBytes at hw; simp at hw; omega
  clear hA0 hval0
  have bb := bounds_i64 wb
  have bc := bounds_u64 wc
  obtain ⟨x, rfl⟩ : ∃ x : Nat, c = x := ⟨c.toNat, by omega⟩
  refine (law_nil a b x s W (by omega) (by omega) (by omega) hz).mono fun e W' ⟨he, bel⟩ => ?_
  subst he
  exact ⟨_, rfl, _, _, _, [], _, [], hW', trodAll_mk1 (shut_bool Try.underlying4 _), (trodAll_cons_mk (Below.trod laidOut (by kernel_rfl) (of_decide_eq_true (by kernel_rfl)) k0 bel lt0) trodAll_mk0), rfl, bel.frame _, fun h => by cases h⟩

theorem over : Rows.wireNilRow.holds Try.pinned (OpenSpec.ofChange Rows.wireNilSpec) :=
  OpenClaim.holds_of_wide 7 Try.f7 rfl rfl rfl rfl rfl rfl rfl ⟨rfl, rfl, rfl, rfl, rfl⟩ rfl rfl rfl rfl rfl (by kernel_rfl) Try.func7 (by kernel_rfl)
    (of_decide_eq_true (by kernel_rfl)) (by unfold Func.isWrapper; first | (rw [if_pos (by decide +kernel)]; kernel_rfl) | (rw [if_neg (by decide +kernel)]; exact ⟨rfl, rfl⟩))
    (fun os started H enc _ => lifted os started H enc)
end Go.Proofs.Ythlmohbpedcmfaa.wireNil
namespace Go.Proofs.Ythlmohbpedcmfaa
theorem wireNil_holds : Rows.WireNilSaid := wireNil.over
#print axioms wireNil_holds
end Go.Proofs.Ythlmohbpedcmfaa
