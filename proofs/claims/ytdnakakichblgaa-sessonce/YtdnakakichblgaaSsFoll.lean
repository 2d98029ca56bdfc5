/- follows: whether a session may be put behind all others. -/
import Derived.Test.YtdnakakichblgaaSsTakeM
namespace Go.Proofs.Ytdnakakichblgaa
open Go.RowKit
attribute [local go_sem] Oper.semAt_some
/-- Draws leave all. -/
theorem sbelow_dn (q : Nat) (W : World) (n : Nat) : Below q W (W.drewN n) := by
  have f := Fr.drewN W n (fun _ => False)
  refine ⟨f.os, f.tape, f.output, f.size, fun k _ => ?_⟩
  rw [World.heap_drewN]
set_option maxRecDepth 100000 in
set_option maxHeartbeats 2000000 in
theorem sfoll {w : World} {B p : Nat} {v : Value} {L : List Req} (h : TA w B p v L) (hl : L.length ≤ 1000000) (x : Req) : Calls Try.prog 40 #[.pointer (some ⟨p, 0, none⟩), .agg #[.int .i64 x.k, .int .i64 x.n, .string x.s]] w fun r w' => r = .returned (.bool (follB L x)) ∧ Below w.heap.size w w' := by
  have HT : Hid (TA w B p v L) := h
  clear h
  obtain ⟨b, hb⟩ : ∃ b, follB L x = b := ⟨_, rfl⟩
  have HBv : Hid (follB L x = b) := hb
  rw [hb]
  clear hb
  go_enter Try.func40, Try.ntmps40
  go_upto_region 1 with (fail)
  generalize hW : World.alloc _ _ = W
  have hB : Below w.heap.size w W := by rw [← hW]; exact sone_new w _
  have hZ : W.heap[w.heap.size]? = some (.cells #[.int .i64 x.k, .int .i64 x.n, .string x.s] 60 (0, 0)) := by rw [← hW]; exact heap_alloc_new w _
  have HB : Hid (Below w.heap.size w W) := hB
  have HT1 : Hid (TA W B p v L) := HT.out.new hB
  clear hW hB
  obtain ⟨q, hq⟩ : ∃ q, w.heap.size = q := ⟨_, rfl⟩
  rw [hq] at hZ ⊢
  clear hq
  obtain ⟨z0, z1, z2, _, _, _⟩ := sbox3 hZ
  have c0 := HT1.out.c0
  obtain ⟨ao, c, rfl, hcap, hg⟩ := HT1.out.row.shape
  go_upto_region 2 with (fail)
  clear hZ
  by_cases hn : 0 < x.n
  · by_cases h0 : L.length = 0
    · have HV : Hid (b = true) := by
        show _ = _
        rw [← HBv.out]
        unfold follB
        rw [List.length_eq_zero_iff.1 h0]
        simpa using hn
      have h0' : ((L.length : Int) == 0) = true := by simp; exact List.length_eq_zero_iff.1 h0
      have h0i : (L.length : Int) = 0 := by omega
      clear h0
      go_quiet (fail)
      go_wp2
      go_ret
      exact ⟨by rw [HV.out]; first | done | rfl, HB.out.trans (sbelow_dn _ _ _)⟩
    · obtain ⟨j, hj⟩ : ∃ j, L.length = j + 1 := ⟨L.length - 1, by omega⟩
      have hlt : j < L.length := by omega
      obtain ⟨g, rfl⟩ := hg (by omega)
      have e0 := (HT1.out.row.at_ _ hlt).1
      have HV : Hid (b = decide (L[j].k < x.k)) := by
        show _ = _
        rw [← HBv.out]
        unfold follB
        rw [show L.length - 1 = j by omega, List.getElem?_eq_getElem hlt]
        simp [hn]
      generalize L[j] = y at e0 HV
      have hle : j + 1 ≤ 1000000 := by omega
      rw [hj] at c0 ⊢
      clear h0 hlt hg hcap HT HT1 HBv hl hj
      have hne : ¬ ((j : Int) + 1 = 0) := by omega
      have hwj : IntKind.i64.wrap (j : Int) = j := IntWalk.i64_in _ (by omega)
      have hjl : (j : Int) < (j : Int) + 1 := by omega
      go_quiet (fail)
      go_wp2
      go_ret
      exact ⟨by rw [HV.out]; first | done | rfl, HB.out.trans (sbelow_dn _ _ _)⟩
  · have HV : Hid (b = false) := by
      show _ = _
      rw [← HBv.out]
      unfold follB
      simp only [Bool.and_eq_false_imp, decide_eq_true_eq]
      omega
    have hn' : x.n ≤ 0 := by omega
    go_quiet (fail)
    go_wp2
    go_ret
    exact ⟨by rw [HV.out]; first | done | rfl, HB.out.trans (sbelow_dn _ _ _)⟩
end Go.Proofs.Ytdnakakichblgaa
