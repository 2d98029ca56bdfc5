/- The law's wrong. -/
import Derived.Test.YtdnakakichblgaaSsRef
namespace Go.Proofs.Ytdnakakichblgaa
open Go.RowKit
attribute [local go_sem] Oper.semAt_some
set_option maxRecDepth 100000 in
set_option maxHeartbeats 4000000 in
theorem lwrong {w : World} {v : Value} {L : List Req} (h : RqS w v L) (hT : Tab L) (k n : Int) (lk : Bool) (s : ByteArray) (hn : n ≤ 9223372036854775807) :
    Calls Try.prog 8 #[v, .agg #[.int .i64 k, .int .i64 n, .bool lk, .string s]] w fun r w' => r = .returned (.tuple #[.int .i64 (lookR L k n).2.2, .string (lookR L k n).1, .bool (lookR L k n).2.1]) ∧ Below w.heap.size w w' := by
  have HS : Hid (RqS w v L) := h
  have HT : Hid (Tab L) := hT
  obtain ⟨t, ht⟩ : ∃ t, lookR L k n = t := ⟨_, rfl⟩
  have HE : Hid (lookR L k n = t) := ht
  rw [ht]
  clear h hT ht
  have hl : L.length ≤ 64 := HT.out.few
  go_enter Try.func8, Try.ntmps8
  go_upto_region 1 with (fail)
  generalize hW : World.alloc _ _ = W
  have hB : Below w.heap.size w W := by rw [← hW]; exact sone_new w _
  have hZ : W.heap[w.heap.size]? = some (.cells #[.int .i64 k, .int .i64 n, .bool lk, .string s] 28 (0, 0)) := by rw [← hW]; exact heap_alloc_new w _
  have HS1 : Hid (RqS W v L) := HS.out.new hB
  have HB : Hid (Below w.heap.size w W) := hB
  clear hW hB
  obtain ⟨q, hq⟩ : ∃ q, w.heap.size = q := ⟨_, rfl⟩
  rw [hq] at hZ ⊢
  clear hq
  have HZ : Hid (W.heap[q]? = some (.cells #[.int .i64 k, .int .i64 n, .bool lk, .string s] 28 (0, 0))) := hZ
  obtain ⟨z0, z1, z2, z3⟩ := sbox4 hZ
  clear hZ
  have hF := lfind k HS1.out (by omega) HT.out.rise
  go_upto_region 2 with (go_at_call 12; refine hF.mono ?_; rintro r w1 ⟨rfl, hb1⟩)
  have HS2 : Hid (RqS w1 v L) := HS1.out.new hb1
  have HB2 : Hid (Below w.heap.size w w1) := HB.out.trans (hb1.mono HB.out.size)
  have hZ2 : w1.heap[q]? = some (.cells #[.int .i64 k, .int .i64 n, .bool lk, .string s] 28 (0, 0)) := (hb1.block q (slt_blk HZ.out)).trans HZ.out
  clear hb1 hF z0 z1 z2 z3
  obtain ⟨z0, z1, z2, z3⟩ := sbox4 hZ2
  clear hZ2
  obtain ⟨ao, c, e, hcap, hC⟩ := HS2.out
  subst e
  by_cases hi : isR L k = true
  · have hlt : posR L k < L.length := by
      unfold isR at hi
      cases e : L[posR L k]? with
      | none => rw [e] at hi; simp at hi
      | some y => exact (List.getElem?_eq_some_iff.1 e).1
    have hLast : lastR L k = L[posR L k] := by
      unfold isR at hi
      unfold lastR
      rw [List.getElem?_eq_getElem hlt] at hi ⊢
      simp only at hi ⊢
      rw [if_pos (by simpa using hi)]
    obtain ⟨b, off, rfl, hc⟩ := hC (by omega)
    obtain ⟨e0, e1, e2⟩ := hc _ hlt
    have HV : Hid (t = if n < 1 then (str [], false, 1) else if n = L[posR L k].n then (L[posR L k].s, true, 0) else if n < L[posR L k].n then (str [], false, 150) else if L[posR L k].n < n - 1 then (str [], false, 151) else (str [], false, 0)) := by
      show _ = _
      rw [← HE.out]
      unfold lookR
      rw [hLast]
      have h1 := HT.out.one _ (List.getElem_mem hlt)
      have h0 : ¬ (L[posR L k].n = 0 ∧ 64 ≤ L.length) := by omega
      rw [if_neg h0]
    generalize L[posR L k] = y at e0 e1 e2 HV
    clear hLast hc hC
    rw [hi]
    generalize posR L k = j at hlt e0 e1 e2 ⊢
    have hjl : (j : Int) < L.length := by omega
    clear hi
    by_cases h1 : n < 1
    · have HF : Hid (t = (str [], false, 1)) := by show _ = _; rw [HV.out, if_pos h1]
      clear HV
      go_wp2
      go_ret3
      exact ⟨by rw [HF.out]; first | done | rfl, HB2.out⟩
    · by_cases h2 : n = y.n
      · have HF : Hid (t = (y.s, true, 0)) := by show _ = _; rw [HV.out, if_neg h1, if_pos h2]
        clear HV
        have h2' : (n == y.n) = true := by simpa using h2
        go_wp2
        go_quiet (fail)
        go_wp2
        go_ret3
        exact ⟨by rw [HF.out]; first | done | rfl, HB2.out.trans (sbelow_dn _ _ _)⟩
      · by_cases h3 : n < y.n
        · have HF : Hid (t = (str [], false, 150)) := by show _ = _; rw [HV.out, if_neg h1, if_neg h2, if_pos h3]
          clear HV
          go_wp2
          go_ret3
          exact ⟨by rw [HF.out]; first | done | rfl, HB2.out⟩
        · by_cases h4 : y.n < n - 1
          · have HF : Hid (t = (str [], false, 151)) := by show _ = _; rw [HV.out, if_neg h1, if_neg h2, if_neg h3, if_pos h4]
            clear HV
            go_wp2
            go_ret3
            exact ⟨by rw [HF.out]; first | done | rfl, HB2.out⟩
          · have HF : Hid (t = (str [], false, 0)) := by show _ = _; rw [HV.out, if_neg h1, if_neg h2, if_neg h3, if_neg h4]
            clear HV
            go_wp2
            go_ret3
            exact ⟨by rw [HF.out]; first | done | rfl, HB2.out⟩
  · have hif : isR L k = false := by simpa using hi
    have h0 : (lastR L k).n = 0 := by
      by_cases e : (lastR L k).n = 0
      · exact e
      · exact absurd ((is_last HT.out.rise HT.out.one k).2 e) hi
    have HV : Hid (t = if n < 1 then (str [], false, 1) else if 0 < n - 1 then (str [], false, 151) else if 64 ≤ L.length then (str [], false, 3) else (str [], false, 0)) := by
      show _ = _
      rw [← HE.out]
      unfold lookR
      rw [h0]
      by_cases h1 : n < 1
      · rw [if_pos h1, if_pos h1]
      · rw [if_neg h1, if_neg h1, if_neg (show ¬ n = 0 by omega), if_neg (show ¬ n < 0 by omega)]
        simp
    rw [hif]
    clear hi hif h0 hC
    generalize posR L k = j
    by_cases h1 : n < 1
    · have HF : Hid (t = (str [], false, 1)) := by show _ = _; rw [HV.out, if_pos h1]
      clear HV
      go_wp2
      go_ret3
      exact ⟨by rw [HF.out]; first | done | rfl, HB2.out⟩
    · have hn0 : ¬ n = 0 := by omega
      have hn1 : ¬ n < 0 := by omega
      by_cases h4 : 0 < n - 1
      · have HF : Hid (t = (str [], false, 151)) := by show _ = _; rw [HV.out, if_neg h1, if_pos h4]
        clear HV
        go_wp2
        go_ret3
        exact ⟨by rw [HF.out]; first | done | rfl, HB2.out⟩
      · by_cases h6 : 64 ≤ L.length
        · have HF : Hid (t = (str [], false, 3)) := by show _ = _; rw [HV.out, if_neg h1, if_neg h4, if_pos h6]
          clear HV
          have h6' : (64 : Int) ≤ L.length := by omega
          go_wp2
          go_ret3
          exact ⟨by rw [HF.out]; first | done | rfl, HB2.out⟩
        · have HF : Hid (t = (str [], false, 0)) := by show _ = _; rw [HV.out, if_neg h1, if_neg h4, if_neg h6]
          clear HV
          have h6' : (L.length : Int) < 64 := by omega
          go_wp2
          go_ret3
          exact ⟨by rw [HF.out]; first | done | rfl, HB2.out⟩
end Go.Proofs.Ytdnakakichblgaa
