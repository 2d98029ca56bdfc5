/- What the document's Bytes returns. -/
import Derived.Test.YtjbkbhilcmiamaaGrVB
namespace Go.Proofs.Ytjbkbhilcmiamaa
open Go.RowKit

set_option maxRecDepth 100000 in
set_option maxHeartbeats 400000 in
theorem refbytes_any {w : World} {P : Nat → Prop} {ao : Option Addr} (G : List Vx) (cap : Nat) (hG : VxAt w P ao G) (hok : ∀ v ∈ G, v.ok) (hl : G.length ≤ 256) (hes : ∀ v ∈ G, v.es.length ≤ 2048) (hr : room G ≤ 48640) :
    Calls Try.prog 28 #[.slice ao G.length cap] w fun r w' => r = .returned (.string (str (grB G))) ∧ Below w.heap.size w w' := by
  have hN := fun W => refnumber_any G.length W (by omega)
  have hcv : IntKind.u64.wrap (G.length : Int) = (G.length : Int) := by rw [IntKind.wrap_u64]; omega
  have s3 : (str (numB G.length)).size ≤ 10 := numB_len10 (n := G.length) (by omega)
  have HG : Hid (VxAt w P ao G) := hG
  have HO : Hid (∀ v ∈ G, v.ok) := hok
  have HE : Hid (∀ v ∈ G, v.es.length ≤ 2048) := hes
  clear hG hok hes
  go_enter Try.func28, Try.ntmps28
  go_wp2_with (go_at_call 41; refine (hN _).mono ?_; rintro r w3 ⟨rfl, hb3⟩)
  clear hN hcv
  go_loopw [3, 4] (fun u i wr => ∃ (k : Nat), k ≤ G.length ∧ i = .int .i64 k ∧ u = .string (str (numB G.length ++ (G.take k).flatMap vxB)) ∧ Below w.heap.size w wr) (fun _ i _ => G.length - (intOf i).toNat)
  case atStart => exact ⟨0, Nat.zero_le _, rfl, by simp, hb3⟩
  case round =>
    obtain ⟨k, hk, rfl, rfl, hbr⟩ := hrel
    by_cases hlt : k < G.length
    · have HV := HG.out.new hbr
      obtain ⟨b, off, rfl, hP, hc⟩ := HV (by omega)
      obtain ⟨eo, ec, f0, f1, f2, f3⟩ := hc k hlt
      have HS : Hid _ := vxs_snoc G k hlt
      have HZ : Hid (G[k].ok) := HO.out _ (List.getElem_mem hlt)
      have HL : Hid (G[k].es.length ≤ 2048) := HE.out _ (List.getElem_mem hlt)
      have HF : Hid (EdAt _ _ eo G[k].es) := f3
      have z1 : (str (vxB G[k])).size ≤ 50000 := by show (vxB G[k]).length ≤ _; have := vxB_len HZ.out; have := HL.out; omega
      have z0 : (str (numB G.length ++ (G.take k).flatMap vxB)).size ≤ 100000 := by
        have h4 := vxsB_len (G.take k) (fun e he => HO.out e (List.mem_of_mem_take he))
        have h5 := room_at hlt
        have h6 : (numB G.length).length ≤ 10 := s3
        show (_ : List UInt8).length ≤ _
        simp only [List.length_append]
        omega
      generalize G[k] = z at f0 f1 f2 HF HS HZ HL z1
      generalize hA : numB G.length ++ (G.take k).flatMap vxB = A at z0 ⊢
      have HA : Hid _ := hA
      clear hc hA f3 HV
      go_wp2_with (go_at_call 54; refine (vertexbytes_any z ec HF.out HZ.out HL.out).mono ?_; rintro r w4 ⟨rfl, hb4⟩; have hB4 := hbr.trans (hb4.mono hbr.size))
      go_roundw
      case rel => exact ⟨k + 1, by omega, by go_num, by rw [HS.out, ← List.append_assoc, HA.out, str_append], hB4⟩
      case measure => simp [intOf]; omega
    · obtain rfl : k = G.length := by omega
      go_wp2
      go_ret
      exact ⟨by rw [List.take_length]; rfl, hbr⟩
end Go.Proofs.Ytjbkbhilcmiamaa
