/- Look. -/
import Derived.Test.YtdnakakichblgaaSsKeep
namespace Go.Proofs.Ytdnakakichblgaa
open Go.RowKit
attribute [local go_sem] Oper.semAt_some
theorem slook_nil (k n : Int) (w : World) : Calls Try.prog 9 #[.pointer none, .int .i64 k, .int .i64 n] w fun r w' => r = .returned (.tuple #[.string (str []), .bool false, .int .i64 1]) ∧ w' = w := by
  go_enter Try.func9, Try.ntmps9
  go_wp2
  go_ret3
  exact ⟨rfl, rfl⟩
set_option maxRecDepth 100000 in
set_option maxHeartbeats 2000000 in
theorem slook {w : World} {B p : Nat} {v : Value} {L : List Req} (h : TA w B p v L) (hl : L.length ≤ 1000000) (hr : RiseQ L) (k n : Int) (hn : n ≤ 9223372036854775807) : Calls Try.prog 9 #[.pointer (some ⟨p, 0, none⟩), .int .i64 k, .int .i64 n] w fun r w' => r = .returned (.tuple #[.string (lookR L k n).1, .bool (lookR L k n).2.1, .int .i64 (lookR L k n).2.2]) ∧ Below w.heap.size w w' := by
  have HT : Hid (TA w B p v L) := h
  have HR : Hid (RiseQ L) := hr
  clear h hr
  by_cases h1 : n < 1
  · have e : lookR L k n = (str [], false, 1) := by unfold lookR; rw [if_pos h1]
    rw [e]
    clear e
    go_enter Try.func9, Try.ntmps9
    go_wp2
    go_ret3
    exact ⟨rfl, Below.refl _ _⟩
  · have hF := slast k HT.out hl HR.out
    obtain ⟨t, ht⟩ : ∃ t, lookR L k n = t := ⟨_, rfl⟩
    have HE : Hid (lookR L k n = t) := ht
    rw [ht]
    clear ht
    have h1' : 1 ≤ n := by omega
    go_enter Try.func9, Try.ntmps9
    go_upto_region 4 with (go_at_call 30; refine hF.mono ?_; rintro r w1 ⟨rfl, hb1⟩)
    generalize hW : World.alloc _ _ = W
    have hB : Below w1.heap.size w1 W := by rw [← hW]; exact sone_new _ _
    have hZ : W.heap[w1.heap.size]? = some (.cells #[.int .i64 (lastR L k).k, .int .i64 (lastR L k).n, .string (lastR L k).s] 60 (0, 0)) := by rw [← hW]; exact heap_alloc_new _ _
    have HB : Hid (Below w.heap.size w W) := hb1.trans (hB.mono hb1.size)
    have HT1 : Hid (TA W B p v L) := HT.out.new HB.out
    clear hW hF hb1 hB
    generalize w1.heap.size = q at hZ ⊢
    obtain ⟨z0, z1, z2, _, _, _⟩ := sbox3 hZ
    have c0 := HT1.out.c0
    obtain ⟨ao, c, rfl, _, _⟩ := HT1.out.row.shape
    have HV : Hid (lookR L k n = if n = (lastR L k).n then ((lastR L k).s, true, 0) else if n < (lastR L k).n then (str [], false, 150) else if (lastR L k).n < n - 1 then (str [], false, 151) else if (lastR L k).n = 0 ∧ 64 ≤ L.length then (str [], false, 3) else (str [], false, 0)) := by
      show _ = _
      conv => lhs; unfold lookR
      rw [if_neg (by omega)]
    generalize lastR L k = y at z0 z1 z2 HV
    clear hZ
    by_cases h2 : n = y.n
    · have HF : Hid (t = (y.s, true, 0)) := by show _ = _; rw [← HE.out, HV.out, if_pos h2]
      clear HV
      have h2' : (n == y.n) = true := by simpa using h2
      go_wp2
      go_ret3
      exact ⟨by rw [HF.out]; first | done | rfl, HB.out⟩
    · by_cases h3 : n < y.n
      · have HF : Hid (t = (str [], false, 150)) := by show _ = _; rw [← HE.out, HV.out, if_neg h2, if_pos h3]
        clear HV
        go_wp2
        go_ret3
        exact ⟨by rw [HF.out]; first | done | rfl, HB.out⟩
      · by_cases h4 : y.n < n - 1
        · have HF : Hid (t = (str [], false, 151)) := by show _ = _; rw [← HE.out, HV.out, if_neg h2, if_neg h3, if_pos h4]
          clear HV
          go_wp2
          go_ret3
          exact ⟨by rw [HF.out]; first | done | rfl, HB.out⟩
        · by_cases h5 : y.n = 0
          · by_cases h6 : 64 ≤ L.length
            · have HF : Hid (t = (str [], false, 3)) := by show _ = _; rw [← HE.out, HV.out, if_neg h2, if_neg h3, if_neg h4, if_pos ⟨h5, h6⟩]
              clear HV
              have h6' : (64 : Int) ≤ L.length := by omega
              go_wp2
              go_ret3
              exact ⟨by rw [HF.out]; first | done | rfl, HB.out⟩
            · have HF : Hid (t = (str [], false, 0)) := by show _ = _; rw [← HE.out, HV.out, if_neg h2, if_neg h3, if_neg h4, if_neg (fun h => h6 h.2)]
              clear HV
              have h6' : (L.length : Int) < 64 := by omega
              go_wp2
              go_ret3
              exact ⟨by rw [HF.out]; first | done | rfl, HB.out⟩
          · have HF : Hid (t = (str [], false, 0)) := by show _ = _; rw [← HE.out, HV.out, if_neg h2, if_neg h3, if_neg h4, if_neg (fun h => h5 h.1)]
            clear HV
            go_wp2
            go_ret3
            exact ⟨by rw [HF.out]; first | done | rfl, HB.out⟩
end Go.Proofs.Ytdnakakichblgaa
