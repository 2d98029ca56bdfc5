import Derived.Test.YthnhmhjcpdomcaaMuDelM
import Derived.Test.YthnhmhjcpdomcaaGrRefKM
import Derived.Test.YthnhmhjcpdomcaaMuR14M
import Derived.Deep.CutBlock
import Derived.Laws.StructEq
import Derived.Deep.QuietTactic
import Derived.Test.YthnhmhjcpdomcaaGrData
import Derived.Test.YthnhmhjcpdomcaaProg
import Derived.WalkKit
import Derived.ProofKit
import Derived.OpenShut
import Derived.Deep.Slices
import Derived.Deep.Strs
import Derived.Lib.SmallJoins
import Derived.SizedLaws
import Derived.Test.YthnhmhjcpdomcaaMuThat
section
/- The walk of the statement on requests' bytes. -/
namespace Go.Proofs.Ythnhmhjcpdomcaa
open Go.RowKit
theorem b_pairW {w0 w1 w2 : World} (hb : Below w0.heap.size w0 w1) (hf : Fr w1 w2 (fun k => k = w0.heap.size ∨ (Value.slice none 0 0).ownBlock = some k)) : Below w0.heap.size w0 w2 :=
  hb.trans (hf.below hb.size (fun k hk => by rcases hk with rfl | hk; exact Nat.le_refl _; cases hk))
theorem b_pairR {w0 w1 w2 : World} (hb : Below w0.heap.size w0 w1) (hf : Fr w1 w2 (fun k => k = w0.heap.size)) : Below w0.heap.size w0 w2 :=
  hb.trans (hf.below hb.size (fun k hk => by rw [hk]; exact Nat.le_refl _))
theorem b_Wr {w w' : World} {base p : Nat} {v : Value} {l : List UInt8} (h : Wr w base p v l) (hb : Below w.heap.size w w') : Wr w' base p v l :=
  h.kept (Fr.ofBelow hb (fun _ => False)) (fun h => h) (fun _ _ h => h)
theorem b_Rd {w w' : World} {p : Nat} {s : ByteArray} {a e : Int} (h : Rd w p s a e) (hb : Below w.heap.size w w') : Rd w' p s a e :=
  h.kept (Fr.ofBelow hb (fun _ => False)) (fun h => h)
theorem b_drewN {B : Nat} {w wr : World} (h : Below B w wr) (n : Nat) : Below B w (wr.drewN n) := by
  induction n with
  | zero => exact h
  | succ n ih => exact ih.drew
theorem b_str (a b : List UInt8) : str a ++ str b = str (a ++ b) := by
  apply ByteArray.ext
  simp [str]
theorem b_size (a : List UInt8) : (str a).size = a.length := rfl
/-- The bytes of a request behind the others', as the statement puts them together. -/
theorem b_next (D : List Mu) (j : Nat) (h : j < D.length) (n : Nat) : str (numB n ++ (D.take j).flatMap muB) ++ (str (numB D[j].k.toNat) ++ str (sgB D[j].i) ++ str (sgB D[j].t) ++ str (sgB D[j].v)) = str (numB n ++ (D.take (j + 1)).flatMap muB) := by
  rw [b_str, b_str, b_str, b_str, us_snoc D j h]
  unfold muB
  simp only [List.append_assoc]
theorem b_all (D : List Mu) (j : Nat) (h : j < D.length) : ((D.take j).all mayU && mayU D[j]) = (D.take (j + 1)).all mayU := by
  rw [List.take_succ_eq_append_getElem h, List.all_append]
  simp
theorem u_part4 {t : TypeId} (ht : (Try.prog.info? t).map (fun i => i.size) = some 1) (ha : ∀ w, (isAgg t).run Try.prog w = .ok false w) (w : World) (a b c d : Value) : (part t #[a, b, c, d] 0).run Try.prog w = .ok a w ∧ (part t #[a, b, c, d] 1).run Try.prog w = .ok b w ∧ (part t #[a, b, c, d] 2).run Try.prog w = .ok c w ∧ (part t #[a, b, c, d] 3).run Try.prog w = .ok d w := by
  obtain ⟨i, hi, hs⟩ := Option.map_eq_some_iff.1 ht
  refine ⟨?_, ?_, ?_, ?_⟩ <;> simp [part, typeInfo, hi, hs, sizeOf, ha]
theorem u_sizeI64 : (Try.prog.info? 2).map (fun i => i.size) = some 1 := by kernel_rfl
theorem u_sizeI : (Try.prog.info? 3).map (fun i => i.size) = some 1 := by kernel_rfl
theorem u_eq64 (w : World) (a b : Int) : (Op.equalIn 9999 2 (.int .i64 a) (.int .i64 b)).run Try.prog w = .ok (a == b) w := by
  unfold Op.equalIn
  simp [run_underlying Try.underlying2]
theorem u_eqI (w : World) (a b : Int) : (Op.equalIn 9999 3 (.int .i64 a) (.int .i64 b)).run Try.prog w = .ok (a == b) w := by
  unfold Op.equalIn
  simp [run_underlying Try.underlying3]
theorem u_neU (w : World) (a b c d : Int) : (binOp .neq 38 (.agg #[.int .i64 a, .int .i64 b, .int .i64 c, .int .i64 d]) (.agg #[.int .i64 a, .int .i64 b, .int .i64 c, .int .i64 d])).run Try.prog w = .ok (.bool false) w := by
  have h : (Op.equalIn 10000 38 (.agg #[.int .i64 a, .int .i64 b, .int .i64 c, .int .i64 d]) (.agg #[.int .i64 a, .int .i64 b, .int .i64 c, .int .i64 d])).run Try.prog w = .ok true w := by
    unfold Op.equalIn
    simp [run_underlying Try.underlying38, (u_part4 u_sizeI Try.isAgg3 _ _ _ _ _).1, (u_part4 u_sizeI64 Try.isAgg2 _ _ _ _ _).2.1, (u_part4 u_sizeI64 Try.isAgg2 _ _ _ _ _).2.2.1, (u_part4 u_sizeI64 Try.isAgg2 _ _ _ _ _).2.2.2, u_eq64, u_eqI]
  simp only [binOp]
  simp [Op.equal, Op.maxDepth, h]
theorem u_guardU (w : World) (p q : Operand) (a b c d a' b' c' d' : Int) : (eqGuard .neq 38 p q (.agg #[.int .i64 a, .int .i64 b, .int .i64 c, .int .i64 d]) (.agg #[.int .i64 a', .int .i64 b', .int .i64 c', .int .i64 d'])).run Try.prog w = .ok () w := by
  unfold eqGuard
  simp
theorem ref_row {w : World} {P : Nat → Prop} {ao : Option Addr} (D : List Mu) (cap n j : Nat) (hn : n = D.length) (h : UsAt w P ao D) (hl : D.length ≤ 100) (hj : j < D.length) :
    Calls Try.prog 18 #[.slice ao n cap] w fun r w' => ∃ g c, r = .returned (.slice (some ⟨g, 0, none⟩) n c) ∧ UC w' g (j * 4) D[j] ∧ Below w.heap.size w w' := by
  subst hn
  refine (refU_any D cap h (by omega)).mono ?_
  rintro r w' ⟨v, rfl, hR, hb⟩
  obtain ⟨g, c, rfl, hg, hcs⟩ := hR.at_ (by omega)
  exact ⟨g, c, rfl, hcs j hj, hb⟩
theorem box_keep {w w' : World} {b : Nat} {o : Obj} (h : w.heap[b]? = some o) (hb : Below w.heap.size w w') : w'.heap[b]? = some o := (hb.block _ (Array.getElem?_eq_some_iff.1 h).1).trans h
theorem put_n {w : World} {base p : Nat} {v : Value} {l : List UInt8} {ao : Option Addr} (L : List Mu) (cap n : Nat) (hn : n = L.length) (h : Wr w base p v l) (hE : UsAt w (fun k => k ≠ p ∧ v.ownBlock ≠ some k) ao L) (hok : ∀ m ∈ L, m.ok) (hl : L.length ≤ 9223372036854775807) (hroom : l.length + 10 + 40 * L.length ≤ 140737488355328) :
    Calls Try.prog 29 #[.pointer (some ⟨p, 0, none⟩), .slice ao n cap] w fun r w' => r = .returned (.tuple #[]) ∧ WTo w w' base p v (l ++ musB L) := by
  subst hn
  exact putU_any L cap h hE hok hl hroom
/-- What is read off the bytes of some requests: these, or none. -/
theorem b_read {D : List Mu} (hok : ∀ m ∈ D, m.ok) (h0 : ∀ m ∈ D, 0 ≤ m.k) (hl : D.length ≤ 100) {K : List Mu} {ka : Nat} {ke : Int} (h : rdUL (str (musB D)) 0 0 = (K, ka, ke)) :
    (D.all mayU = true → K = D ∧ ke = 0) ∧ (D.all mayU = false → K = [] ∧ ke ≠ 0) := by
  have hd : (str (musB D)).data.toList = musB D := by simp [str]
  refine ⟨fun ha => ?_, fun ha => ?_⟩
  · have := rdUL_enc hd hok (fun m hm => List.all_eq_true.1 ha m hm) (by omega)
    rw [h] at this
    simp only [Prod.mk.injEq] at this
    exact ⟨this.1, this.2.2⟩
  · have hb : ∃ m ∈ D, mayU m = false := by
      obtain ⟨m, hm, h1⟩ := List.all_eq_false.1 ha
      exact ⟨m, hm, by simpa using h1⟩
    have := rdUL_bad hd (fun m hm => ⟨hok m hm, h0 m hm⟩) hb (by omega)
    rw [h] at this
    exact this
set_option maxRecDepth 100000 in
set_option maxHeartbeats 4000000 in
theorem law_mbytes (ao : Option Addr) (cap : Nat) (L : List Mu) (s : ByteArray) (w : World) {P : Nat → Prop} (h : UsAt w P ao L) (hok : ∀ m ∈ L, m.ok) (hcap : L.length ≤ cap) (hs : s.size + 4096 ≤ 140737488355328) :
    Calls Try.prog 7 #[.slice ao L.length cap, .string s] w fun e w' => e = .returned (.bool true) ∧ Below w.heap.size w w' := by
  have HM : Hid (UsAt w P ao L) := h
  have HO : Hid (∀ m ∈ L, m.ok) := hok
  clear h hok
  go_enter Try.func7, Try.ntmps7
  go_upto_if 19 with fail
  go_cut [0] (fun u wx => ∃ (D : List Mu) (n : Nat), n = D.length ∧ u = .slice ao n cap ∧ D.length ≤ 100 ∧ (∀ m ∈ D, m.ok) ∧ UsAt wx P ao D ∧ wx = w)
  case first =>
    by_cases h100 : 100 < L.length
    · have hne : ∃ b off, ao = some ⟨b, off, none⟩ := by
        obtain ⟨b, off, e, _⟩ := HM.out (by omega)
        exact ⟨b, off, e⟩
      obtain ⟨b, off, rfl⟩ := hne
      go_wp2
      go_meet
      refine ⟨L.take 100, 100, by rw [List.length_take]; omega, rfl, by rw [List.length_take]; omega, fun m hm => HO.out m (List.mem_of_mem_take hm), ?_, rfl⟩
      intro hp
      obtain ⟨b', off', e, hP, hc⟩ := HM.out (by omega)
      refine ⟨b', off', e, hP, fun j hj => ?_⟩
      rw [List.length_take] at hj
      have := hc j (by omega)
      rwa [List.getElem_take]
    · go_wp2
      go_meet
      exact ⟨L, _, rfl, rfl, by omega, HO.out, HM.out, rfl⟩
  case rest =>
    obtain ⟨D, n, hn, rfl, hD, hDo, hDs, rfl⟩ := hcut
    have HN : Hid (n = D.length) := hn
    have hn100 : n ≤ 100 := by omega
    have HDo : Hid _ := hDo
    have HDs : Hid _ := hDs
    have hcvt := u64n (n := n) (by omega)
    clear hn hDo hDs HM HO
    go_upto_block 0 with (go_at_call 24; refine (unum_any n _ (by omega)).mono ?_; rintro r w1 ⟨rfl, hb1⟩; have HB1 : Hid _ := hb1; clear hb1)
    go_cut [5, 6] (fun a b wx => a = .bool (D.all mayU) ∧ b = .string (str (numB n ++ D.flatMap muB)) ∧ Hid (∀ m ∈ D, 0 ≤ m.k) ∧ Below wc.heap.size wc wx)
    case first =>
      go_wp2
      go_loopw [4, 5, 6, 7, 8, 9] (fun _ a b i _ _ wr => ∃ j : Nat, j ≤ n ∧ a = .bool ((D.take j).all mayU) ∧ b = .string (str (numB n ++ (D.take j).flatMap muB)) ∧ i = .int .i64 j ∧ Hid (∀ m ∈ D.take j, 0 ≤ m.k) ∧ Below wc.heap.size wc wr) (fun _ _ _ i _ _ _ => n - (intOf i).toNat)
      case atStart => exact ⟨0, Nat.zero_le _, rfl, by simp, rfl, (fun m hm => (by simp at hm)), HB1.out⟩
      case round =>
        obtain ⟨j, hj, rfl, rfl, rfl, HK, hb⟩ := hrel
        by_cases hlt : j < n
        · have hjD : j < D.length := by rw [← HN.out]; exact hlt
          have HRf : Hid (∀ W, Below wc.heap.size wc W → Calls Try.prog 18 #[.slice ao n cap] W fun r w' => ∃ g c, r = .returned (.slice (some ⟨g, 0, none⟩) n c) ∧ UC w' g (j * 4) D[j] ∧ Below W.heap.size W w') := fun W hbW => ref_row D cap n j HN.out (UsAt.new (P := P) HDs.out hbW) hD hjD
          obtain ⟨b, off, rfl, hP, hc⟩ := HDs.out (by omega)
          have hz := UC.new (hc j hjD) hb
          have HZ : Hid (D[j].ok) := HDo.out _ (List.getElem_mem hjD)
          have HNx : Hid _ := b_next D j hjD n
          have HAl : Hid _ := b_all D j hjD
          have HKs : Hid ((∀ m ∈ D.take j, 0 ≤ m.k) → 0 ≤ D[j].k → ∀ m ∈ D.take (j + 1), 0 ≤ m.k) := fun h1 h2 m hm => by
            rw [List.take_succ_eq_append_getElem hjD] at hm
            rcases List.mem_append.1 hm with hm | hm
            · exact h1 m hm
            · obtain rfl : m = D[j] := by simpa using hm
              exact h2
          have HLn : Hid ((numB n ++ (D.take j).flatMap muB).length ≤ 4010) := by
            show _ ≤ _
            have h1 := numB_len10 (n := n) (by omega)
            have h2 := ussB_len (D.take j) (fun v hv => HDo.out v (List.mem_of_mem_take hv))
            rw [List.length_take] at h2
            rw [List.length_append]; omega
          generalize D[j] = z at hz HZ HNx HAl HKs HRf
          obtain ⟨zk, zi, zt, zv⟩ := z
          have l1 := numB_len10 (n := zk.toNat) (by have := HZ.out.k.2; simp only at this; omega)
          have l2 := sgB_len HZ.out.i
          have l3 := sgB_len HZ.out.t
          have l4 := sgB_len HZ.out.v
          have lw := HLn.out
          simp only at HNx HAl HKs l1 l2 l3 l4
          obtain ⟨e0, e1, e2, e3⟩ := hz
          simp only at e0 e1 e2 e3
          obtain ⟨mu, hmu⟩ : ∃ mu, mayU ⟨zk, zi, zt, zv⟩ = mu := ⟨_, rfl⟩
          have HMu : Hid _ := hmu
          rw [hmu] at HAl
          obtain ⟨W1, hW1⟩ : ∃ W1, wr.alloc (.cells #[.int .i64 zk, .int .i64 zi, .int .i64 zt, .int .i64 zv] 38) = W1 := ⟨_, rfl⟩
          have HBx1 : Hid (W1.heap[wr.heap.size]? = some (.cells #[.int .i64 zk, .int .i64 zi, .int .i64 zt, .int .i64 zv] 38 (0, 0))) := by rw [← hW1]; exact heap_alloc_new _ _
          have hb2 : Below wr.heap.size wr W1 := by rw [← hW1]; exact one_newU _ _
          have HB2 : Hid _ := hb.trans (hb2.mono hb.size)
          clear hc hb hb2 hmu HLn
          have tk1 : Hid True := trivial
          go_upto_region 9 with (first
            | (go_at_call 18; refine (HRf.out _ HB2.out).mono ?_; rintro r w2 ⟨g, c, rfl, hu, hb3⟩; obtain ⟨r0, r1, r2, r3⟩ := hu; have HBx2 : Hid _ := box_keep HBx1.out hb3; have HB3 : Hid _ := HB2.out.trans (hb3.mono HB2.out.size); clear hb3)
            | (go_at_call 25; refine (mayRef_any ⟨zk, zi, zt, zv⟩ _).mono ?_; rintro r w3 ⟨rfl, hb4⟩; rw [HMu.out]; have HBx3 : Hid _ := box_keep HBx2.out hb4; have HB4 : Hid _ := HB3.out.trans (hb4.mono HB3.out.size); clear hb4))
          clear r0 r1 r2 r3 HBx1 HBx2 HB2 HB3
          obtain ⟨q0, q1, q2, q3⟩ := u_cellsP HBx3.out
          by_cases hk : zk < 0
          · have hkn : (zk < 0) = True := by simp [hk]
            cases mu
            all_goals
              go_wp2_with (go_at_call 26; first
                | (have _t := tk1; refine (checkU_any ⟨zk, zi, zt, zv⟩ _).mono ?_; rintro r w4 ⟨rfl, hb5⟩; rw [HMu.out]; have HBx4 : Hid _ := box_keep HBx3.out hb5; have HB5 : Hid _ := HB4.out.trans (hb5.mono HB4.out.size); obtain ⟨p0, p1, p2, p3⟩ := u_cellsP HBx4.out; clear tk1 hb5)
                | (refine (checkU_any ⟨zk, zi, zt, zv⟩ _).mono ?_; rintro r w5 ⟨rfl, hb6⟩; rw [HMu.out]; have HB6 : Hid _ := HB5.out.trans (hb6.mono HB5.out.size); clear hb6))
              go_ret
              exact ⟨rfl, HB6.out⟩
          · obtain ⟨kn, rfl⟩ : ∃ kn : Nat, zk = kn := ⟨zk.toNat, by omega⟩
            rw [Int.toNat_natCast] at HNx l1
            obtain ⟨al, hal⟩ : ∃ al, (D.take j).all mayU = al := ⟨_, rfl⟩
            rw [hal] at HAl ⊢
            have HL : Hid _ := hal
            clear hal
            cases mu <;> cases al
            · go_upto_region 12 with (go_at_call 26; refine (checkU_any ⟨kn, zi, zt, zv⟩ _).mono ?_; rintro r w4 ⟨rfl, hb5⟩; rw [HMu.out]; have HBx4 : Hid _ := box_keep HBx3.out hb5; have HB5 : Hid _ := HB4.out.trans (hb5.mono HB4.out.size); obtain ⟨p0, p1, p2, p3⟩ := u_cellsP HBx4.out; clear hb5)
              refine mbytes_r12 (bx := wr.heap.size) (kn := kn) (ki := zi) (kt := zt) (kv := zv) (s0 := str (numB n ++ (D.take j).flatMap muB)) (z0 := str (numB kn)) (z1 := str (sgB zi)) (z2 := str (sgB zt)) (z3 := str (sgB zv)) rfl rfl rfl HBx4.out (by have := HZ.out.k.2; simp only at this; omega) HZ.out.i HZ.out.t HZ.out.v rfl rfl rfl rfl (by rw [b_size, b_size]; omega) (by rw [b_size, b_size, b_size]; omega) (by rw [b_size, b_size, b_size, b_size]; omega) (by rw [b_size, b_size, b_size, b_size, b_size]; omega) ?_
              intro X W hbW h6
              simp only [puts]
              rw [h6, HNx.out]
              generalize X 64 = x64
              generalize X 65 = x65
              generalize X 66 = x66
              generalize X 67 = x67
              generalize X 68 = x68
              generalize X 69 = x69
              generalize X 70 = x70
              generalize X 71 = x71
              generalize X 72 = x72
              generalize X 73 = x73
              generalize X 74 = x74
              generalize X 75 = x75
              generalize X 76 = x76
              generalize X 77 = x77
              generalize X 78 = x78
              generalize X 79 = x79
              generalize X 80 = x80
              generalize X 81 = x81
              have HBW : Hid _ := HB5.out.trans (hbW.mono HB5.out.size)
              clear hbW h6 X HBx4 HBx3 HB4 HB5 p0 p1 p2 p3 q0 q1 q2 q3
              go_wp2
              go_roundw
              case rel => exact ⟨j + 1, by omega, by rw [← HAl.out]; rfl, rfl, by go_num, HKs.out HK.out (by omega), HBW.out⟩
              case measure => simp [intOf]; omega
            · go_upto_region 12 with (go_at_call 26; refine (checkU_any ⟨kn, zi, zt, zv⟩ _).mono ?_; rintro r w4 ⟨rfl, hb5⟩; rw [HMu.out]; have HBx4 : Hid _ := box_keep HBx3.out hb5; have HB5 : Hid _ := HB4.out.trans (hb5.mono HB4.out.size); obtain ⟨p0, p1, p2, p3⟩ := u_cellsP HBx4.out; clear hb5)
              refine mbytes_r12 (bx := wr.heap.size) (kn := kn) (ki := zi) (kt := zt) (kv := zv) (s0 := str (numB n ++ (D.take j).flatMap muB)) (z0 := str (numB kn)) (z1 := str (sgB zi)) (z2 := str (sgB zt)) (z3 := str (sgB zv)) rfl rfl rfl HBx4.out (by have := HZ.out.k.2; simp only at this; omega) HZ.out.i HZ.out.t HZ.out.v rfl rfl rfl rfl (by rw [b_size, b_size]; omega) (by rw [b_size, b_size, b_size]; omega) (by rw [b_size, b_size, b_size, b_size]; omega) (by rw [b_size, b_size, b_size, b_size, b_size]; omega) ?_
              intro X W hbW h6
              simp only [puts]
              rw [h6, HNx.out]
              generalize X 64 = x64
              generalize X 65 = x65
              generalize X 66 = x66
              generalize X 67 = x67
              generalize X 68 = x68
              generalize X 69 = x69
              generalize X 70 = x70
              generalize X 71 = x71
              generalize X 72 = x72
              generalize X 73 = x73
              generalize X 74 = x74
              generalize X 75 = x75
              generalize X 76 = x76
              generalize X 77 = x77
              generalize X 78 = x78
              generalize X 79 = x79
              generalize X 80 = x80
              generalize X 81 = x81
              have HBW : Hid _ := HB5.out.trans (hbW.mono HB5.out.size)
              clear hbW h6 X HBx4 HBx3 HB4 HB5 p0 p1 p2 p3 q0 q1 q2 q3
              go_wp2
              go_roundw
              case rel => exact ⟨j + 1, by omega, by rw [← HAl.out]; rfl, rfl, by go_num, HKs.out HK.out (by omega), HBW.out⟩
              case measure => simp [intOf]; omega
            · go_upto_region 12 with (go_at_call 26; refine (checkU_any ⟨kn, zi, zt, zv⟩ _).mono ?_; rintro r w4 ⟨rfl, hb5⟩; rw [HMu.out]; have HBx4 : Hid _ := box_keep HBx3.out hb5; have HB5 : Hid _ := HB4.out.trans (hb5.mono HB4.out.size); obtain ⟨p0, p1, p2, p3⟩ := u_cellsP HBx4.out; clear hb5)
              refine mbytes_r12 (bx := wr.heap.size) (kn := kn) (ki := zi) (kt := zt) (kv := zv) (s0 := str (numB n ++ (D.take j).flatMap muB)) (z0 := str (numB kn)) (z1 := str (sgB zi)) (z2 := str (sgB zt)) (z3 := str (sgB zv)) rfl rfl rfl HBx4.out (by have := HZ.out.k.2; simp only at this; omega) HZ.out.i HZ.out.t HZ.out.v rfl rfl rfl rfl (by rw [b_size, b_size]; omega) (by rw [b_size, b_size, b_size]; omega) (by rw [b_size, b_size, b_size, b_size]; omega) (by rw [b_size, b_size, b_size, b_size, b_size]; omega) ?_
              intro X W hbW h6
              simp only [puts]
              rw [h6, HNx.out]
              generalize X 64 = x64
              generalize X 65 = x65
              generalize X 66 = x66
              generalize X 67 = x67
              generalize X 68 = x68
              generalize X 69 = x69
              generalize X 70 = x70
              generalize X 71 = x71
              generalize X 72 = x72
              generalize X 73 = x73
              generalize X 74 = x74
              generalize X 75 = x75
              generalize X 76 = x76
              generalize X 77 = x77
              generalize X 78 = x78
              generalize X 79 = x79
              generalize X 80 = x80
              generalize X 81 = x81
              have HBW : Hid _ := HB5.out.trans (hbW.mono HB5.out.size)
              clear hbW h6 X HBx4 HBx3 HB4 HB5 p0 p1 p2 p3 q0 q1 q2 q3
              go_wp2
              go_roundw
              case rel => exact ⟨j + 1, by omega, by rw [← HAl.out]; rfl, rfl, by go_num, HKs.out HK.out (by omega), HBW.out⟩
              case measure => simp [intOf]; omega
            · go_upto_region 12 with (go_at_call 26; refine (checkU_any ⟨kn, zi, zt, zv⟩ _).mono ?_; rintro r w4 ⟨rfl, hb5⟩; rw [HMu.out]; have HBx4 : Hid _ := box_keep HBx3.out hb5; have HB5 : Hid _ := HB4.out.trans (hb5.mono HB4.out.size); obtain ⟨p0, p1, p2, p3⟩ := u_cellsP HBx4.out; clear hb5)
              refine mbytes_r12 (bx := wr.heap.size) (kn := kn) (ki := zi) (kt := zt) (kv := zv) (s0 := str (numB n ++ (D.take j).flatMap muB)) (z0 := str (numB kn)) (z1 := str (sgB zi)) (z2 := str (sgB zt)) (z3 := str (sgB zv)) rfl rfl rfl HBx4.out (by have := HZ.out.k.2; simp only at this; omega) HZ.out.i HZ.out.t HZ.out.v rfl rfl rfl rfl (by rw [b_size, b_size]; omega) (by rw [b_size, b_size, b_size]; omega) (by rw [b_size, b_size, b_size, b_size]; omega) (by rw [b_size, b_size, b_size, b_size, b_size]; omega) ?_
              intro X W hbW h6
              simp only [puts]
              rw [h6, HNx.out]
              generalize X 64 = x64
              generalize X 65 = x65
              generalize X 66 = x66
              generalize X 67 = x67
              generalize X 68 = x68
              generalize X 69 = x69
              generalize X 70 = x70
              generalize X 71 = x71
              generalize X 72 = x72
              generalize X 73 = x73
              generalize X 74 = x74
              generalize X 75 = x75
              generalize X 76 = x76
              generalize X 77 = x77
              generalize X 78 = x78
              generalize X 79 = x79
              generalize X 80 = x80
              generalize X 81 = x81
              have HBW : Hid _ := HB5.out.trans (hbW.mono HB5.out.size)
              clear hbW h6 X HBx4 HBx3 HB4 HB5 p0 p1 p2 p3 q0 q1 q2 q3
              go_wp2
              go_roundw
              case rel => exact ⟨j + 1, by omega, by rw [← HAl.out]; rfl, rfl, by go_num, HKs.out HK.out (by omega), HBW.out⟩
              case measure => simp [intOf]; omega
        · obtain rfl : j = n := by omega
          have HBe : Hid _ := hb
          have e1 : D.take j = D := by rw [HN.out]; exact List.take_length
          rw [e1] at HK ⊢
          clear hb
          go_wp2
          go_meet
          exact ⟨rfl, rfl, HK, HBe.out⟩
    case rest =>
      obtain ⟨rfl, rfl, HKk, hb⟩ := hcut
      have HB : Hid _ := hb
      have HDs2 : Hid _ := UsAt.new (P := P) HDs.out hb
      have HEq : Hid (str (numB n ++ D.flatMap muB) = str (musB D)) := by show _ = _; unfold musB; rw [HN.out]
      have hBl : (musB D).length ≤ 4010 := by
        have h1 := numB_len10 (n := D.length) (by omega)
        have h2 := ussB_len D HDo.out
        unfold musB
        rw [List.length_append]; omega
      obtain ⟨⟨K, ka, ke⟩, hk⟩ : ∃ q, rdUL (str (musB D)) 0 0 = q := ⟨_, rfl⟩
      have HR : Hid _ := b_read HDo.out HKk.out hD hk
      have HQ1 : Hid _ := hk
      have hSm : (str (musB D)).size ≤ maxLen := by rw [b_size]; unfold maxLen; omega
      obtain ⟨S, hS⟩ : ∃ S, str (musB D) = S := ⟨_, rfl⟩
      rw [HEq.out, hS]
      rw [hS] at HQ1 hSm
      have HS : Hid _ := hS
      obtain ⟨al, hal⟩ : ∃ al, D.all mayU = al := ⟨_, rfl⟩
      rw [hal] at HR ⊢
      clear hb hk hS hal HB1 HEq
      go_upto_region 17 with (first
        | (go_at_call 28; refine (newwriter_any _).mono ?_; rintro r w1 ⟨rfl, hw1, hb1⟩; have W1 : Hid _ := hw1; have B1 : Hid _ := hb1; clear hw1 hb1)
        | (go_at_call 29; refine (put_n D cap n HN.out W1.out (UsAt.kept (UsAt.kept HDs2.out (Fr.refl _ (fun _ => False)) (fun k hk hp => ⟨fun h => h, (⟨hp, hk⟩ : P k ∧ k < wc.heap.size)⟩)) (Fr.ofBelow B1.out (fun _ => False)) (fun k hk hp => ⟨fun h => h, by omega, by simp [Value.ownBlock]⟩)) HDo.out (by omega) (by show ([] : List UInt8).length + 10 + 40 * D.length ≤ _; simp; omega)).mono ?_; rintro r w2 ⟨rfl, hT⟩; obtain ⟨v2, hwr, hf, _⟩ := hT; rw [List.nil_append] at hwr; have W2 : Hid _ := hwr; have B2 : Hid _ := b_pairW B1.out hf; clear hwr hf)
        | (go_at_call 31; refine (wall_any W2.out).mono ?_; rintro r wz ⟨rfl, hz⟩; rw [hz, HS.out]; clear hz)
        | (go_at_call 30; refine (newreader_any S _).mono ?_; rintro r w3 ⟨rfl, hr3, hb3⟩; have R3 : Hid _ := hr3; have B3 : Hid _ := hb3; clear hr3 hb3)
        | (go_at_call 32; refine (takeU_any R3.out hSm (Nat.zero_le _)).mono ?_; rintro r w4 ⟨v4, rfl, hT4⟩; rw [HQ1.out] at hT4; obtain ⟨ao4, c4, rfl⟩ := UO.shp hT4.own; have R4 : Hid _ := hT4.rd; have O4 : Hid _ := hT4.own; have B4 : Hid _ := b_pairR B3.out hT4.fr; clear hT4))
      have O4a : Hid _ := (UO.at_ O4.out).1
      obtain ⟨m, hm⟩ : ∃ m, K.length = m := ⟨_, rfl⟩
      rw [hm]
      have HMl : Hid _ := hm
      clear hm O4
      go_cut [124] (fun a wx => a = .bool false ∧ Below w4.heap.size w4 wx)
      case first =>
        cases al with
        | false =>
          obtain ⟨hK0, hke⟩ := HR.out.2 rfl
          have hm0 : m = 0 := by rw [← HMl.out, hK0]; rfl
          subst hm0
          have heb : (ke == 0) = false := by simpa using hke
          clear hK0 hke
          go_wp2_with (first
            | (go_at_call 15; refine (awake6 _).mono ?_; rintro r w5 ⟨rfl, hb5⟩; have B5 : Hid _ := hb5; clear hb5)
            | (go_at_call 31; refine (wall_any (b_Wr W2.out (B4.out.trans (B5.out.mono B4.out.size)))).mono ?_; rintro r wz ⟨rfl, hz⟩; rw [hz, HS.out]; clear hz)
            | (go_at_call 33; refine (err_any (b_Rd R4.out B5.out)).mono ?_; rintro r wz ⟨rfl, hz⟩; rw [hz]; clear hz))
          go_meet
          exact ⟨rfl, B5.out⟩
        | true =>
          obtain ⟨hK0, hke⟩ := HR.out.1 rfl
          have hm0 : m = n := by rw [← HMl.out, hK0, HN.out]
          subst hm0 hke
          clear hK0
          go_wp2_with (first
            | (go_at_call 15; refine (awake6 _).mono ?_; rintro r w5 ⟨rfl, hb5⟩; have B5 : Hid _ := hb5; clear hb5)
            | (go_at_call 31; refine (wall_any (b_Wr W2.out (B4.out.trans (B5.out.mono B4.out.size)))).mono ?_; rintro r wz ⟨rfl, hz⟩; rw [hz, HS.out]; clear hz)
            | (go_at_call 33; refine (err_any (b_Rd R4.out B5.out)).mono ?_; rintro r wz ⟨rfl, hz⟩; rw [hz]; clear hz))
          go_meet
          exact ⟨rfl, B5.out⟩
      case rest =>
        obtain ⟨rfl, hb5⟩ := hcut
        have HKD : Hid (m ≤ n ∧ ∀ j (h : j < K.length) (h' : j < D.length), K[j] = D[j]) := by
          show _ ∧ _
          cases al with
          | false =>
            obtain ⟨hK0, _⟩ := HR.out.2 rfl
            refine ⟨by rw [← HMl.out, hK0]; simp, fun j h => ?_⟩
            rw [hK0] at h
            simp at h
          | true =>
            obtain ⟨hK0, _⟩ := HR.out.1 rfl
            refine ⟨by rw [← HMl.out, hK0, HN.out]; exact Nat.le_refl _, fun j h h' => ?_⟩
            subst hK0
            rfl
        have BA : Hid _ := B2.out.trans (B4.out.mono B2.out.size)
        have BC : Hid _ := BA.out.trans (hb5.mono BA.out.size)
        have BT : Hid _ := HB.out.trans (BC.out.mono HB.out.size)
        have DL : Hid _ := UsAt.new (P := P) HDs2.out BC.out
        have KL : Hid _ := UsAt.new O4a.out hb5
        have hmn : m ≤ n := HKD.out.1
        obtain ⟨⟨R, aq, eq⟩, hq⟩ : ∃ q, rdUL s 0 0 = q := ⟨_, rfl⟩
        have HQ : Hid _ := hq
        have hsm : s.size ≤ maxLen := by unfold maxLen; omega
        clear hb5 hq W1 W2 R3 R4 B1 B2 B3 B4 HDs HDs2 O4a HR HQ1 BA BC HB HKk
        go_upto_block 2 with fail
        go_cut [13] (fun _ wx => Below wc.heap.size wc wx)
        case first =>
          go_wp2
          go_loopw [4, 13] (fun _ i wr => ∃ j : Nat, j ≤ m ∧ i = .int .i64 j ∧ Below wc.heap.size wc wr) (fun _ i _ => m - (intOf i).toNat)
          case atStart => exact ⟨0, Nat.zero_le _, rfl, Below.refl _ _⟩
          case round =>
            obtain ⟨j, hj, rfl, hb⟩ := hrel
            by_cases hlt : j < m
            · have hjK : j < K.length := by rw [HMl.out]; exact hlt
              have hjD : j < D.length := by rw [← HN.out]; omega
              obtain ⟨b, off, rfl, hP, hc⟩ := UsAt.new (P := P) DL.out hb (by omega)
              obtain ⟨b', off', rfl, hP', hc'⟩ := UsAt.new KL.out hb (by omega)
              obtain ⟨d0, d1, d2, d3⟩ := hc j hjD
              obtain ⟨f0, f1, f2, f3⟩ := hc' j hjK
              rw [HKD.out.2 j hjK hjD] at f0 f1 f2 f3
              generalize D[j] = y at d0 d1 d2 d3 f0 f1 f2 f3
              have hq1 := fun w p q => u_guardU w p q y.k y.i y.t y.v y.k y.i y.t y.v
              have hq2 := fun w => u_neU w y.k y.i y.t y.v
              have HBr : Hid _ := hb
              clear hc hc' hb
              go_wp2
              go_quiet (fail)
              go_wp2
              go_roundw
              case rel => exact ⟨j + 1, by omega, by go_num, b_drewN HBr.out _⟩
              case measure => simp [intOf]; omega
            · have HBr : Hid _ := hb
              clear hb
              go_wp2
              go_meet
              exact HBr.out
        case rest =>
          have BX : Hid _ := BT.out.trans (hcut.mono BT.out.size)
          clear hcut BT DL KL
          by_cases he : eq = 0
          · subst he
            obtain ⟨haq, htake, hRl, hRok⟩ := rdUL_only HQ.out
            have hEq : Hid (str (musB R) = s.extract 0 aq) := by
              show _ = _
              rw [← htake]
              apply ByteArray.ext
              simp [str, ByteArray.data_extract]
              rw [← Array.toList_inj]
              simp [Array.toList_extract, List.extract]
            have HRo : Hid (∀ m ∈ R, m.ok) := hRok
            clear htake hRok
            go_wp2_with (first
              | (go_at_call 30; refine (newreader_any s _).mono ?_; rintro r w5 ⟨rfl, hr5, hb5⟩; have R5 : Hid _ := hr5; have B5 : Hid _ := hb5; clear hr5 hb5)
              | (go_at_call 32; refine (takeU_any R5.out hsm (Nat.zero_le _)).mono ?_; rintro r w6 ⟨v6, rfl, hT6⟩; rw [HQ.out] at hT6; obtain ⟨ao6, c6, rfl⟩ := UO.shp hT6.own; have R6 : Hid _ := hT6.rd; have M6 : Hid _ := (UO.at_ hT6.own).1; have B6 : Hid _ := b_pairR B5.out hT6.fr; clear hT6)
              | (go_at_call 33; refine (err_any R6.out).mono ?_; rintro r wz ⟨rfl, hz⟩; rw [hz]; clear hz)
              | (go_at_call 28; refine (newwriter_any _).mono ?_; rintro r w7 ⟨rfl, hw7, hb7⟩; have W7 : Hid _ := hw7; have B7 : Hid _ := hb7; clear hw7 hb7)
              | (go_at_call 29; refine (put_n R c6 R.length rfl W7.out (UsAt.kept (UsAt.kept M6.out (Fr.refl _ (fun _ => False)) (fun k hk hp => ⟨fun h => h, (⟨trivial, hk⟩ : True ∧ k < w6.heap.size)⟩)) (Fr.ofBelow B7.out (fun _ => False)) (fun k hk hp => ⟨fun h => h, by omega, by simp [Value.ownBlock]⟩)) HRo.out (by omega) (by show ([] : List UInt8).length + 10 + 40 * R.length ≤ _; simp; omega)).mono ?_; rintro r w8 ⟨rfl, hT⟩; obtain ⟨v8, hwr, hf, _⟩ := hT; rw [List.nil_append] at hwr; have W8 : Hid _ := hwr; have B8 : Hid _ := b_pairW B7.out hf; clear hwr hf)
              | (go_at_call 31; refine (wall_any W8.out).mono ?_; rintro r wz ⟨rfl, hz⟩; rw [hz, hEq.out]; clear hz)
              | (go_at_call 34; refine (at_any (b_Rd R6.out B8.out)).mono ?_; rintro r wz ⟨rfl, hz⟩; rw [hz]; clear hz))
            go_ret
            have b1 := BX.out.trans (B6.out.mono BX.out.size)
            exact ⟨by simp, b1.trans (B8.out.mono b1.size)⟩
          · have heb : (eq != 0) = true := by simpa using he
            have hRn : R = [] := by
              have := rdUL_none (s := s) (by rw [HQ.out]; exact he)
              rw [HQ.out] at this
              exact this
            subst hRn
            go_wp2_with (first
              | (go_at_call 30; refine (newreader_any s _).mono ?_; rintro r w5 ⟨rfl, hr5, hb5⟩; have R5 : Hid _ := hr5; have B5 : Hid _ := hb5; clear hr5 hb5)
              | (go_at_call 32; refine (takeU_any R5.out hsm (Nat.zero_le _)).mono ?_; rintro r w6 ⟨v6, rfl, hT6⟩; rw [HQ.out] at hT6; obtain ⟨ao6, c6, rfl⟩ := UO.shp hT6.own; have R6 : Hid _ := hT6.rd; have B6 : Hid _ := b_pairR B5.out hT6.fr; clear hT6)
              | (go_at_call 33; refine (err_any R6.out).mono ?_; rintro r wz ⟨rfl, hz⟩; rw [hz]; clear hz))
            go_ret
            exact ⟨by simp, BX.out.trans (B6.out.mono BX.out.size)⟩
end Go.Proofs.Ythnhmhjcpdomcaa
end

section
/- How edges, vertices and graphs that came in are opened. -/
namespace Go.Proofs.Ythnhmhjcpdomcaa
open Go.RowKit Go.Deep Go.Joins Go.ChangeShapes
theorem cellsL : Try.prog.cellsOf 2 = 1 := by kernel_rfl
theorem cellsEs : Try.prog.cellsOf 82 = 1 := by kernel_rfl
theorem cellsVs : Try.prog.cellsOf 22 = 1 := by kernel_rfl
theorem cellsEd : Try.prog.cellsOf 81 = 2 := by kernel_rfl
theorem cellsVx : Try.prog.cellsOf 84 = 3 := by kernel_rfl
theorem cellsGr : Try.prog.cellsOf 24 = 1 := by kernel_rfl
theorem two_of {α : Type} {l : List α} (h : l.length = 2) : ∃ a b, l = [a, b] := by
  match l, h with
  | [a, b], _ => exact ⟨a, b, rfl⟩
theorem three_of {α : Type} {l : List α} (h : l.length = 3) : ∃ a b c, l = [a, b, c] := by
  match l, h with
  | [a, b, c], _ => exact ⟨a, b, c, rfl⟩
theorem add_none {b off : Nat} (j i : Nat) : (((⟨b, off, none⟩ : Addr).add j).add i) = ⟨b, off + j + i, none⟩ := by
  rw [add_add]
  unfold Addr.add
  split <;> simp_all <;> omega
section
variable {H : Type} {enc : TypeId × Value → H} {w : World} {base : Nat} {spare : Nat → Bool} {held : Bool}
def Ed.data (e : Ed) : DataW H := .agg [.lit (.int .i64 e.t), .lit (.int .i64 e.w)]
theorem i64_of {a : Int} (h : (Lit.int .i64 a).wf = true) : I64 a := by have := bounds_i64 h; unfold I64; omega
theorem open_ed {n : Nat} {cs : List Value} {x : DataW H × List MemPlace} (h : DataW.trod enc Try.prog w base spare held n 81 cs = some x) :
    ∃ y : Ed, cs = [.int .i64 y.t, .int .i64 y.w] ∧ x.1 = y.data ∧ y.ok := by
  obtain ⟨y0, y1, m, rfl, hl, h0, h1⟩ := trod_struct2 Try.underlying81 h
  rw [cellsEd] at hl
  obtain ⟨v0, v1, rfl⟩ := two_of hl
  simp only [cellsL] at h0 h1
  obtain ⟨a, e0, rfl, wa⟩ := DataW.trod_int Try.underlying2 h0
  obtain ⟨b, e1, rfl, wb⟩ := DataW.trod_int Try.underlying2 h1
  simp at e0 e1
  subst e0 e1
  exact ⟨⟨a, b⟩, rfl, rfl, ⟨i64_of wa, i64_of wb⟩⟩
theorem open_eds {n : Nat} {cs : List Value} {x : DataW H × List MemPlace} (h : DataW.trod enc Try.prog w base spare held n 82 cs = some x) :
    ∃ (ao : Option Addr) (cap : Nat) (L : List Ed), cs = [.slice ao L.length cap] ∧ (∀ y ∈ L, y.ok) ∧ L.length ≤ maxLen ∧ EdAt w (fun k => k < w.heap.size) ao L ∧ ((x.1 = .nil ∧ L = []) ∨ ∃ sp, x.1 = .slice (L.map Ed.data) sp) := by
  rcases open_slice Try.underlying82 h with ⟨h0, h1⟩ | ⟨a, len, cap, m, k, D, Pl, rfl, hb, hl, hm, hmm, rfl, hx⟩
  · exact ⟨none, 0, [], h0, fun y hy => (by cases hy), by simp, fun h => absurd h (by simp), Or.inl ⟨by rw [h1], rfl⟩⟩
  · have hlm : len ≤ m := by rw [hmm]; split <;> omega
    have each : ∀ i, i < len → ∃ y : Ed, w.cells? base (a.add (i * 2)) 2 = some [.int .i64 y.t, .int .i64 y.w] ∧ D i = y.data ∧ y.ok := by
      intro i hi
      obtain ⟨cs', h1, h2⟩ := hx i (by omega)
      rw [cellsEd] at h1
      obtain ⟨y, rfl, h3, h4⟩ := open_ed h2
      exact ⟨y, h1, h3, h4⟩
    haveI : Inhabited Ed := ⟨⟨0, 0⟩⟩
    obtain ⟨q, hq⟩ := choose_lt each
    have hlen : ((List.range len).map q).length = len := by simp
    refine ⟨some a, cap, (List.range len).map q, by rw [hlen], ?_, by rw [hlen]; omega, ?_, Or.inr ⟨(List.range (m - len)).map fun j => D (len + j), ?_⟩⟩
    · intro y hy
      obtain ⟨i, hi, rfl⟩ := List.mem_map.1 hy
      exact (hq i (List.mem_range.1 hi)).2.2
    · intro hpos
      rw [hlen] at hpos
      obtain ⟨_, _, hc0⟩ := World.cells?_some (hq 0 hpos).1
      have hs0 := World.cell?_spot (hc0 0 (by simp))
      have hspot : a.spot = none := by simpa [Addr.add] using hs0
      obtain ⟨b, off, spot⟩ := a
      simp only at hspot
      subst hspot
      have hcell : ∀ j (_ : j < len), w.cell? ⟨b, off + j * 2, none⟩ = some (.int .i64 (q j).t) ∧ w.cell? ⟨b, off + j * 2 + 1, none⟩ = some (.int .i64 (q j).w) := by
        intro j hj
        obtain ⟨_, _, hc⟩ := World.cells?_some (hq j hj).1
        have e0 := hc 0 (by simp)
        have e1 := hc 1 (by simp)
        rw [add_none] at e0 e1
        simp at e0 e1
        exact ⟨e0, e1⟩
      refine ⟨b, off, rfl, lt_cell (hcell 0 hpos).1, ?_⟩
      intro j hj
      have hj' : j < len := by simpa using hj
      simp only [List.getElem_map, List.getElem_range]
      exact hcell j hj'
    · show DataW.slice _ _ = _
      rw [List.map_map]
      congr 1
      exact List.map_congr_left (fun i hi => (hq i (List.mem_range.1 hi)).2.1)
/-- A vertex's three cells, opened. -/
theorem open_vx {n : Nat} {cs : List Value} {x : DataW H × List MemPlace} (h : DataW.trod enc Try.prog w base spare held n 84 cs = some x) :
    ∃ (y : Vx) (eo : Option Addr) (ec : Nat) (dx : DataW H), cs = [.int .i64 y.id, .int .i64 y.val, .slice eo y.es.length ec] ∧ I64 y.id ∧ I64 y.val ∧ (∀ e ∈ y.es, e.ok) ∧ y.es.length ≤ maxLen ∧ EdAt w (fun k => k < w.heap.size) eo y.es ∧ x.1 = .agg [.lit (.int .i64 y.id), .lit (.int .i64 y.val), dx] ∧ ((dx = .nil ∧ y.es = []) ∨ ∃ sp, dx = .slice (y.es.map Ed.data) sp) := by
  obtain ⟨y0, y1, y2, m, rfl, hl, h0, h1, h2⟩ := trod_struct3 Try.underlying84 h
  rw [cellsVx] at hl
  obtain ⟨v0, v1, v2, rfl⟩ := three_of hl
  simp only [cellsL, cellsEs] at h0 h1 h2
  obtain ⟨a, e0, rfl, wa⟩ := DataW.trod_int Try.underlying2 h0
  obtain ⟨b, e1, rfl, wb⟩ := DataW.trod_int Try.underlying2 h1
  obtain ⟨ao, cap, L, hcs, hok, hm, hE, hd⟩ := open_eds h2
  simp at e0 e1 hcs
  subst e0 e1 hcs
  exact ⟨⟨a, b, L⟩, ao, cap, y2.1, rfl, i64_of wa, i64_of wb, hok, hm, hE, rfl, hd⟩
end
end Go.Proofs.Ythnhmhjcpdomcaa
end

section
/- How a graph that came in is opened, with its bounds. -/
namespace Go.Proofs.Ythnhmhjcpdomcaa
open Go.RowKit Go.Deep Go.Joins Go.ChangeShapes
theorem bytesEd : Try.prog.bytesOf 81 = 16 := by kernel_rfl
theorem bytesVx : Try.prog.bytesOf 84 = 40 := by kernel_rfl
theorem mem_weightsAll {H : Type} {P : Program} {e : TypeId} : ∀ {ds : List (DataW H)} {d : DataW H} {n : Nat}, d ∈ ds → n ∈ d.weights P e → n ∈ DataW.weightsAll P e ds
  | [], _, _, h, _ => by cases h
  | d0 :: ds, d, n, h, hn => by
    simp only [DataW.weightsAll, List.mem_append]
    rcases List.mem_cons.1 h with rfl | h
    · exact Or.inl hn
    · exact Or.inr (mem_weightsAll h hn)
section
variable {H : Type} {enc : TypeId × Value → H} {w : World} {base : Nat} {spare : Nat → Bool} {held : Bool}
theorem vx_weight {y : Vx} {dx : DataW H} (hd : (dx = .nil ∧ y.es = []) ∨ ∃ sp, dx = .slice (y.es.map Ed.data) sp) (hw : ∀ m ∈ (DataW.agg [.lit (.int .i64 y.id), .lit (.int .i64 y.val), dx] : DataW H).weights Try.prog 84, m ≤ reachBytes) : y.es.length ≤ 8796093022208 := by
  rcases hd with ⟨_, h⟩ | ⟨sp, rfl⟩
  · rw [h]; simp
  · have := hw ((y.es.length + sp.length) * 16) (by
      have hu := Try.underlying84
      have hv := Try.underlying82
      simp [DataW.weights, DataW.weightsEach, hu, hv, bytesEd])
    unfold reachBytes at this
    omega
theorem open_vs {n : Nat} {cs : List Value} {x : DataW H × List MemPlace} (h : DataW.trod enc Try.prog w base spare held n 22 cs = some x) (hw : ∀ m ∈ x.1.weights Try.prog 22, m ≤ reachBytes) :
    ∃ (ao : Option Addr) (cap : Nat) (G : List Vx), cs = [.slice ao G.length cap] ∧ (∀ y ∈ G, y.ok) ∧ G.length * 40 ≤ 140737488355328 ∧ VxAt w (fun k => k < w.heap.size) ao G := by
  rcases open_slice Try.underlying22 h with ⟨h0, h1⟩ | ⟨a, len, cap, m, k, D, Pl, rfl, hb, hl, hm, hmm, rfl, hx⟩
  · exact ⟨none, 0, [], h0, fun y hy => (by cases hy), by simp, fun h => absurd h (by simp)⟩
  · have hlm : len ≤ m := by rw [hmm]; split <;> omega
    have hv := Try.underlying22
    have hlen40 : len * 40 ≤ 140737488355328 := by
      have := hw ((((List.range len).map D).length + ((List.range (m - len)).map fun j => D (len + j)).length) * 40) (by simp [DataW.weights, hv, bytesVx])
      unfold reachBytes at this
      simp only [List.length_map, List.length_range] at this
      omega
    have each : ∀ i, i < len → ∃ y : Vx, (∃ eo ec, w.cells? base (a.add (i * 3)) 3 = some [.int .i64 y.id, .int .i64 y.val, .slice eo y.es.length ec] ∧ EdAt w (fun k => k < w.heap.size) eo y.es) ∧ y.ok := by
      intro i hi
      obtain ⟨cs', h1, h2⟩ := hx i (by omega)
      rw [cellsVx] at h1
      obtain ⟨y, eo, ec, dx, rfl, hid, hvl, hes, _, hE, hD, hd⟩ := open_vx h2
      refine ⟨y, ⟨eo, ec, h1, hE⟩, hid, hvl, hes, vx_weight hd (fun m hm => hw m ?_)⟩
      simp only [DataW.weights, hv]
      refine List.mem_cons_of_mem _ (List.mem_append_left _ (mem_weightsAll (d := D i) (List.mem_map.2 ⟨i, List.mem_range.2 hi, rfl⟩) ?_))
      have hD' : D i = _ := hD
      rw [hD']
      exact hm
    haveI : Inhabited Vx := ⟨⟨0, 0, []⟩⟩
    obtain ⟨q, hq⟩ := choose_lt each
    have hlen : ((List.range len).map q).length = len := by simp
    refine ⟨some a, cap, (List.range len).map q, by rw [hlen], ?_, by rw [hlen]; exact hlen40, ?_⟩
    · intro y hy
      obtain ⟨i, hi, rfl⟩ := List.mem_map.1 hy
      exact (hq i (List.mem_range.1 hi)).2
    · intro hpos
      rw [hlen] at hpos
      obtain ⟨eo0, ec0, hq0, _⟩ := (hq 0 hpos).1
      obtain ⟨_, _, hc0⟩ := World.cells?_some hq0
      have hs0 := World.cell?_spot (hc0 0 (by simp))
      have hspot : a.spot = none := by simpa [Addr.add] using hs0
      obtain ⟨b, off, spot⟩ := a
      simp only at hspot
      subst hspot
      have hcell : ∀ j (_ : j < len), VxCell w (fun k => k < w.heap.size) b (off + j * 3) (q j) := by
        intro j hj
        obtain ⟨eo, ec, hqj, hE⟩ := (hq j hj).1
        obtain ⟨_, _, hc⟩ := World.cells?_some hqj
        have e0 := hc 0 (by simp)
        have e1 := hc 1 (by simp)
        have e2 := hc 2 (by simp)
        rw [add_none] at e0 e1 e2
        simp at e0 e1 e2
        exact ⟨eo, ec, e0, e1, e2, hE⟩
      refine ⟨b, off, rfl, ?_, ?_⟩
      · obtain ⟨_, _, e0, _⟩ := hcell 0 hpos
        exact lt_cell e0
      · intro j hj
        have hj' : j < len := by simpa using hj
        simp only [List.getElem_map, List.getElem_range]
        exact hcell j hj'
theorem open_gr {n : Nat} {cs : List Value} {x : DataW H × List MemPlace} (h : DataW.trod enc Try.prog w base spare held n 24 cs = some x) (hw : ∀ m ∈ x.1.weights Try.prog 24, m ≤ reachBytes) :
    ∃ (ao : Option Addr) (cap : Nat) (G : List Vx), cs = [.slice ao G.length cap] ∧ (∀ y ∈ G, y.ok) ∧ G.length * 40 ≤ 140737488355328 ∧ VxAt w (fun k => k < w.heap.size) ao G := by
  obtain ⟨y0, m, rfl, hl, h0⟩ := trod_struct1 Try.underlying24 h
  rw [cellsGr] at hl
  obtain ⟨v0, rfl⟩ : ∃ v, cs = [v] := List.length_eq_one_iff.1 hl
  simp only [cellsVs] at h0
  refine open_vs (x := y0) (by simpa using h0) (fun k hk => hw k ?_)
  have hu := Try.underlying24
  simp [DataW.weights, DataW.weightsEach, hu]
  exact hk
end
end Go.Proofs.Ythnhmhjcpdomcaa
end

section
/- How requests that came in are opened. -/
namespace Go.Proofs.Ythnhmhjcpdomcaa
open Go.RowKit Go.Deep Go.Joins Go.ChangeShapes
theorem u_cellsI : Try.prog.cellsOf 3 = 1 := by kernel_rfl
theorem u_cellsI6 : Try.prog.cellsOf 2 = 1 := by kernel_rfl
theorem u_cellsM : Try.prog.cellsOf 38 = 4 := by kernel_rfl
theorem u_bytesM : Try.prog.bytesOf 38 = 32 := by kernel_rfl
theorem u_four_of {α : Type} {l : List α} (h : l.length = 4) : ∃ a b c d, l = [a, b, c, d] := by
  match l, h with
  | [a, b, c, d], _ => exact ⟨a, b, c, d, rfl⟩
theorem u_add_none {b off : Nat} (j i : Nat) : (((⟨b, off, none⟩ : Addr).add j).add i) = ⟨b, off + j + i, none⟩ := by
  rw [add_add]
  unfold Addr.add
  split <;> simp_all <;> omega
section
variable {H : Type} {enc : TypeId × Value → H} {w : World} {base : Nat} {spare : Nat → Bool} {held : Bool}
def uData (m : Mu) : DataW H := .agg [.lit (.int .i64 m.k), .lit (.int .i64 m.i), .lit (.int .i64 m.t), .lit (.int .i64 m.v)]
theorem u_i64_of {a : Int} (h : (Lit.int .i64 a).wf = true) : I64 a := by have := bounds_i64 h; unfold I64; omega
theorem open_mu {n : Nat} {cs : List Value} {x : DataW H × List MemPlace} (h : DataW.trod enc Try.prog w base spare held n 38 cs = some x) :
    ∃ y : Mu, cs = muCells y ∧ x.1 = uData y ∧ y.ok := by
  obtain ⟨y0, y1, y2, y3, m, rfl, hl, h0, h1, h2, h3⟩ := trod_struct4 Try.underlying38 h
  rw [u_cellsM] at hl
  obtain ⟨v0, v1, v2, v3, rfl⟩ := u_four_of hl
  simp only [u_cellsI, u_cellsI6] at h0 h1 h2 h3
  obtain ⟨a, e0, rfl, wa⟩ := DataW.trod_int Try.underlying3 h0
  obtain ⟨b, e1, rfl, wb⟩ := DataW.trod_int Try.underlying2 h1
  obtain ⟨c, e2, rfl, wc⟩ := DataW.trod_int Try.underlying2 h2
  obtain ⟨d, e3, rfl, wd⟩ := DataW.trod_int Try.underlying2 h3
  simp at e0 e1 e2 e3
  subst e0 e1 e2 e3
  exact ⟨⟨a, b, c, d⟩, rfl, rfl, ⟨u_i64_of wa, u_i64_of wb, u_i64_of wc, u_i64_of wd⟩⟩
theorem open_mus {n : Nat} {cs : List Value} {x : DataW H × List MemPlace} (h : DataW.trod enc Try.prog w base spare held n 35 cs = some x) :
    ∃ (ao : Option Addr) (cap : Nat) (L : List Mu), cs = [.slice ao L.length cap] ∧ (∀ y ∈ L, y.ok) ∧ L.length ≤ cap ∧ (ao = none → cap = 0) ∧ UsAt w (fun k => k < w.heap.size) ao L ∧ ((x.1 = .nil ∧ L = []) ∨ ∃ sp, x.1 = .slice (L.map uData) sp) := by
  rcases open_slice Try.underlying35 h with ⟨h0, h1⟩ | ⟨a, len, cap, m, k, D, Pl, rfl, hb, hl, hm, hmm, rfl, hx⟩
  · exact ⟨none, 0, [], h0, fun y hy => (by cases hy), by simp, fun _ => rfl, fun h => absurd h (by simp), Or.inl ⟨by rw [h1], rfl⟩⟩
  · have hlm : len ≤ m := by rw [hmm]; split <;> omega
    have each : ∀ i, i < len → ∃ y : Mu, w.cells? base (a.add (i * 4)) 4 = some (muCells y) ∧ D i = uData y ∧ y.ok := by
      intro i hi
      obtain ⟨cs', h1, h2⟩ := hx i (by omega)
      rw [u_cellsM] at h1
      obtain ⟨y, rfl, h3, h4⟩ := open_mu h2
      exact ⟨y, h1, h3, h4⟩
    haveI : Inhabited Mu := ⟨⟨0, 0, 0, 0⟩⟩
    obtain ⟨q, hq⟩ := choose_lt each
    have hlen : ((List.range len).map q).length = len := by simp
    refine ⟨some a, cap, (List.range len).map q, by rw [hlen], ?_, by rw [hlen]; exact hl, fun h => (by cases h), ?_, Or.inr ⟨(List.range (m - len)).map fun j => D (len + j), ?_⟩⟩
    · intro y hy
      obtain ⟨i, hi, rfl⟩ := List.mem_map.1 hy
      exact (hq i (List.mem_range.1 hi)).2.2
    · intro hpos
      rw [hlen] at hpos
      obtain ⟨_, _, hc0⟩ := World.cells?_some (hq 0 hpos).1
      have hs0 := World.cell?_spot (hc0 0 (by simp))
      have hspot : a.spot = none := by simpa [Addr.add] using hs0
      obtain ⟨b, off, spot⟩ := a
      subst hspot
      have cells : ∀ j (hj : j < len), w.cell? ⟨b, off + j * 4, none⟩ = some (.int .i64 (q j).k) ∧ w.cell? ⟨b, off + j * 4 + 1, none⟩ = some (.int .i64 (q j).i) ∧ w.cell? ⟨b, off + j * 4 + 2, none⟩ = some (.int .i64 (q j).t) ∧ w.cell? ⟨b, off + j * 4 + 3, none⟩ = some (.int .i64 (q j).v) := by
        intro j hj
        obtain ⟨_, _, hc⟩ := World.cells?_some (hq j hj).1
        have g0 := hc 0 (by simp)
        have g1 := hc 1 (by simp)
        have g2 := hc 2 (by simp)
        have g3 := hc 3 (by simp)
        rw [u_add_none] at g0 g1 g2 g3
        exact ⟨g0, g1, g2, g3⟩
      refine ⟨b, off, rfl, lt_cell (cells 0 hpos).1, fun j hj => ?_⟩
      rw [hlen] at hj
      have hcj := cells j hj
      unfold UC
      simpa using hcj
    · apply congrArg (fun l => DataW.slice l _)
      rw [List.map_map]
      refine List.map_congr_left fun i hi => ?_
      exact (hq i (List.mem_range.1 hi)).2.1
end
end Go.Proofs.Ythnhmhjcpdomcaa
end
