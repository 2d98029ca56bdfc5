/- What Number returns: the number's bytes, in the program and in the document's words. -/
import Derived.Test.YtdnakakichblgaaNumW
import Derived.Test.YtdnakakichblgaaStr
import Derived.Lib.SlBytesRow
import Derived.Deep.RegionWith
namespace Go.Proofs.Ytdnakakichblgaa
open Go.RowKit
theorem conv_own {w : World} {base : Nat} {v : Value} {l : List UInt8} (h : w.ownsRow base 5 1 v l.length (bc l)) : (convert 65 9 v).run Try.prog w = .ok (.string (str l)) w := by
  rcases h.2 with ⟨rfl, h0⟩ | ⟨g, cap, cur, rfl, hb, hg, _⟩
  · have : l = [] := List.eq_nil_of_length_eq_zero h0
    subst this
    rw [run_convert_bytes_string w 65 9 5 none 0 0 Try.underlying65 Try.underlying5 Try.underlying9]
    rfl
  · have hc : Lib.Bytes w g 0 (str l) := by
      intro i hi
      have := h.cells (g := g) rfl i (.int .u8 ((str l)[i].toNat : Int)) (by
        have hi' : i < l.length := hi
        unfold bc
        rw [List.getElem?_map, List.getElem?_eq_getElem hi']
        rfl)
      have ha : (⟨g, 0, none⟩ : Addr).add i = ⟨g, 0 + i, none⟩ := by unfold Addr.add; split <;> simp_all
      rw [ha] at this
      exact this
    exact Lib.run_convert_whole w 65 5 9 Try.underlying65 Try.underlying5 Try.underlying9 g 0 (str l) hc cap

theorem conv_blk {W : World} {b : Nat} {x : Int} (h0 : 0 ≤ x) (h1 : x < 256) (h : W.heap[b]? = some (.cells #[.int .u8 x] 5 (0, 0))) : (convert 65 9 (.slice (some ⟨b, 0, none⟩) 1 1)).run Try.prog W = .ok (.string (str [UInt8.ofNat x.toNat])) W := by
  refine conv_own (base := 0) (l := [UInt8.ofNat x.toNat]) ⟨rfl, Or.inr ⟨b, 1, #[.int .u8 x], rfl, Nat.zero_le _, h, Nat.le_refl _, by decide, rfl, ?_⟩⟩
  simp [bc]
  omega
theorem conv_new (W : World) (x : Int) (h0 : 0 ≤ x) (h1 : x < 256) : (convert 65 9 (.slice (some ⟨W.heap.size, 0, none⟩) 1 1)).run Try.prog (W.alloc (.cells #[.int .u8 x] 5)) = .ok (.string (str [UInt8.ofNat x.toNat])) (W.alloc (.cells #[.int .u8 x] 5)) :=
  conv_blk h0 h1 (heap_alloc_new _ _)
theorem conv_newd (W : World) (x : Int) (h0 : 0 ≤ x) (h1 : x < 256) : (convert 65 9 (.slice (some ⟨W.heap.size, 0, none⟩) 1 1)).run Try.prog (W.alloc (.cells #[.int .u8 x] 5)).drew = .ok (.string (str [UInt8.ofNat x.toNat])) (W.alloc (.cells #[.int .u8 x] 5)).drew :=
  conv_blk h0 h1 (heap_alloc_new _ _)
theorem conv_later {W w1 : World} (x : Int) (h0 : 0 ≤ x) (h1 : x < 256) (hb : Below (W.alloc (.cells #[.int .u8 x] 5)).drew.heap.size (W.alloc (.cells #[.int .u8 x] 5)).drew w1) : (convert 65 9 (.slice (some ⟨W.heap.size, 0, none⟩) 1 1)).run Try.prog w1 = .ok (.string (str [UInt8.ofNat x.toNat])) w1 :=
  conv_blk h0 h1 ((hb.block W.heap.size (by show _ < (W.alloc _).heap.size; simp)).trans (heap_alloc_new _ _))

theorem below_a {w w1 : World} {o : Obj} (h : Below (w.alloc o).drew.heap.size (w.alloc o).drew w1) : Below w.heap.size w w1 :=
  (((Below.refl w.heap.size w).alloc (Nat.le_refl _) o).drew).trans (h.mono (by show _ ≤ (w.alloc o).heap.size; simp))
theorem below_c {w w1 : World} (h : Below w.drew.heap.size w.drew w1) : Below w.heap.size w w1 := ((Below.refl w.heap.size w).drew).trans h
theorem below_b {w w1 : World} (h : Below w.drew.heap.size w.drew w1) (o : Obj) : Below w.heap.size w (w1.alloc o) := (below_c h).alloc (below_c h).size o
theorem num_join {n q : Nat} {x : Int} (hlo : ¬ n < 128) (hx : x = n % 128 + 128) (hq : q = n / 128) : Ending.returned (.string (str [UInt8.ofNat x.toNat] ++ str (numB q))) = .returned (.string (str (numB n))) := by
  have : x.toNat = n % 128 + 128 := by omega
  rw [str_append, numB_hi hlo, this, hq]; rfl

set_option maxRecDepth 100000 in
theorem refnumber_k (k : Nat) : ∀ (n : Nat) (w : World), n < 128 ^ (k + 1) → n < 18446744073709551616 →
    Calls Try.prog 16 #[.int .u64 n] w fun e w' => e = .returned (.string (str (numB n))) ∧ Below w.heap.size w w' := by
  have lo : ∀ (n : Nat) (w : World), n < 128 → Calls Try.prog 16 #[.int .u64 n] w fun e w' => e = .returned (.string (str (numB n))) ∧ Below w.heap.size w w' := by
    intro n w hlo
    have hcv := conv_new w n (by omega) (by omega)
    go_enter Try.func16, Try.ntmps16
    go_wp2
    go_ret
    rw [numB_lo hlo]
    exact ⟨rfl, (Below.refl _ _).alloc (Nat.le_refl _) _⟩
  induction k with
  | zero =>
    intro n w h hn
    exact lo n w (by simpa using h)
  | succ k ih =>
    intro n w h hn
    by_cases hlo : n < 128
    · exact lo n w hlo
    · obtain ⟨x, HX, hx⟩ : ∃ x : Int, Hid (x = n % 128 + 128) ∧ IntKind.u8.wrap (IntKind.u8.wrap ((n : Int).tmod 128) + 128) = x := ⟨_, (by
        show _ = _
        rw [IntKind.wrap_u8', IntKind.wrap_u8', Int.tmod_eq_emod_of_nonneg (by omega)]; omega), rfl⟩
      obtain ⟨q, HQ, hq⟩ : ∃ q : Nat, Hid (q = n / 128) ∧ IntKind.u64.wrap ((n : Int) / 128) = (q : Int) := ⟨n / 128, rfl, by rw [IntKind.wrap_u64]; omega⟩
      have h0 : 0 ≤ x := by have := HX.out; omega
      have h1 : x < 256 := by have := HX.out; omega
      have hcv := fun W => conv_new W x h0 h1
      have hcd := fun W => conv_newd W x h0 h1
      have h2 : q < 128 ^ (k + 1) := by rw [HQ.out, Nat.div_lt_iff_lt_mul (by decide), ← Nat.pow_succ]; exact h
      have h3 : q < 18446744073709551616 := by have := HQ.out; omega
      have IH : Hid (∀ (w : World), Calls Try.prog 16 #[.int .u64 q] w fun e w' => e = .returned (.string (str (numB q))) ∧ Below w.heap.size w w') := fun w => ih q w h2 h3
      have HH : Hid (n < 18446744073709551616) := hn
      have hs1 : (str [UInt8.ofNat x.toNat]).size ≤ 1 := Nat.le_refl _
      have hs2 : (str (numB q)).size ≤ 10 := numB_len10 h3
      clear ih h h2 h3 lo hn
      go_enter Try.func16, Try.ntmps16
      go_wp2
      go_region_with (go_at_call 16; refine (IH.out _).mono ?_; rintro e w1 ⟨rfl, hb⟩; try (have hcl := conv_later x h0 h1 hb))
      all_goals
        go_wp2
        go_ret
        refine ⟨num_join hlo HX.out HQ.out, ?_⟩
        first | exact below_a hb | exact below_b hb _ | exact below_c hb
theorem refnumber_any (n : Nat) (w : World) (hn : n < 18446744073709551616) :
    Calls Try.prog 16 #[.int .u64 n] w fun e w' => e = .returned (.string (str (numB n))) ∧ Below w.heap.size w w' :=
  refnumber_k 9 n w (Nat.lt_of_lt_of_le hn (by decide)) hn
end Go.Proofs.Ytdnakakichblgaa
