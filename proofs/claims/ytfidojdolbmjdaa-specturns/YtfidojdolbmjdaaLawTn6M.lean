import Derived.Test.YtfidojdolbmjdaaSpRlM
import Derived.Test.YtfidojdolbmjdaaGrClone2M
import Derived.Test.YtfidojdolbmjdaaGrThereM
section
/- SpecDegrees: sums. -/
namespace Go.Proofs.Ytfidojdolbmjdaa
open Go.RowKit Go.Shelf
attribute [local go_sem] Oper.semAt_some
theorem sumE_evs (G : List Vx) (hl : G.length ≤ 256) (hok : ∀ v ∈ G, v.ok) : ∀ k, k ≤ G.length → sumE (G.take k) = (evs (G.take k)).length ∧ (evs (G.take k)).length ≤ k * 8796093022208
  | 0, _ => by simp [sumE, evs]
  | k + 1, h => by
    obtain ⟨ih, ib⟩ := sumE_evs G hl hok k (by omega)
    have hk := (hok _ (List.getElem_mem (show k < G.length by omega))).len
    have e : (evs (G.take (k + 1))).length = (evs (G.take k)).length + G[k].es.length := by rw [evs_snoc G k (by omega)]; simp
    refine ⟨?_, by omega⟩
    rw [sumE_snoc G k (by omega), ih, e]
    unfold wrap64
    omega
theorem evs_few {G : List Vx} (hc : chk G = 0) (hok : ∀ v ∈ G, v.ok) : (evs G).length ≤ 2048 := by
  obtain ⟨hl, _⟩ := rise_of hc
  obtain ⟨h1, _⟩ := sumE_evs G hl hok G.length (Nat.le_refl _)
  rw [List.take_length] at h1
  unfold chk at hc
  split at hc
  · cases hc
  · split at hc
    · cases hc
    · rename_i h2
      have : ¬ 2048 < sumE G := fun h => h2 (Or.inl h)
      omega
theorem evs_take_le (G : List Vx) (k : Nat) : (evs (G.take k)).length ≤ (evs G).length := by
  have h : evs G = evs (G.take k) ++ evs (G.drop k) := by
    unfold evs
    rw [← List.flatMap_append, List.take_append_drop]
  rw [h, List.length_append]
  omega
theorem es_le {G : List Vx} {j : Nat} (h : j < G.length) : G[j].es.length ≤ (evs G).length := by
  have h1 := evs_take_le G (j + 1)
  rw [evs_snoc G j h, List.length_append, List.length_map] at h1
  omega
end Go.Proofs.Ytfidojdolbmjdaa
end

section
/- SpecTurns, plain: what the law adds up and gathers, edge by edge. -/
namespace Go.Proofs.Ytfidojdolbmjdaa
open Go.RowKit Go.Shelf
/-- How many edges of a row lead to a vertex. -/
def cntV (l : List Ed) (x : Int) : Nat := l.countP fun e => decide (e.t = x)
theorem cntV_le (l : List Ed) (x : Int) : cntV l x ≤ l.length := List.countP_le_length
theorem cntV_succ {l : List Ed} {e : Nat} (h : e < l.length) (x : Int) : cntV (l.take (e + 1)) x = cntV (l.take e) x + if l[e].t = x then 1 else 0 := by
  unfold cntV
  rw [List.take_add_one, List.getElem?_eq_getElem h, List.countP_append]
  congr 1
  by_cases ee : l[e].t = x
  · simp [ee]
  · simp [ee]
theorem cntV_row {G : List Vx} (hr : Rise (ids G)) (hth : thereE G = true) {k i : Nat} (hk : k < G.length) (hi : i < G.length) : cntE ((rowsG G).getD k []) i = cntV G[k].es G[i].id := by
  have hkr : k < (rowsG G).length := by rw [rowsG_n]; exact hk
  rw [← get_dd hkr]
  have e1 : (rowsG G)[k] = rowO (ids G) G[k] := by simp [rowsG]
  rw [e1]
  unfold cntE cntV rowO
  rw [List.countP_map]
  apply List.countP_congr
  intro d hd
  have h1 : (G[k].id, d) ∈ evs G := List.mem_flatMap.2 ⟨G[k], List.getElem_mem hk, List.mem_map.2 ⟨d, hd, rfl⟩⟩
  have hm := (ev_ids h1 hth).2
  have hji : i < (ids G).length := by rw [ids_len]; exact hi
  have e : (ids G)[i] = G[i].id := by simp [ids]
  obtain ⟨m, hm1, hm2⟩ := List.getElem_of_mem hm
  simp only at hm2
  have hf : findN (ids G) d.t = m := by rw [← hm2]; exact findN_self hr hm1
  simp only [Function.comp_apply, beq_iff_eq, Int.toNat_natCast, hf, decide_eq_true_eq]
  constructor
  · intro h
    subst h
    rw [← hm2]
    exact e
  · intro h
    rw [h, ← e] at hf
    rw [← hf]
    exact (findN_self hr hji).symm ▸ rfl
theorem rowLen {G : List Vx} {k : Nat} (hk : k < G.length) : ((rowsG G).getD k []).length = G[k].es.length := by
  have hkr : k < (rowsG G).length := by rw [rowsG_n]; exact hk
  rw [← get_dd hkr]
  simp [rowsG, rowO]
/-- A part of a row's sum. -/
theorem sum_part {O : List (List Ed)} {R : List Int} {n k i : Nat} {l : List Ed} {x : Int} {e : Nat} (hR : ∀ k, 0 ≤ R.getD k 0) (hO : ∀ k, ∀ e ∈ O.getD k [], e.t.toNat < n) (hS : sumI n (fun k => R.getD k 0) ≤ 1000000) (hk : k < n) (hi : i < n) (hc : cntE (O.getD k []) i = cntV l x) : 0 ≤ rankIn O R k i + (cntV (l.take e) x : Int) * share O R k ∧ rankIn O R k i + (cntV (l.take e) x : Int) * share O R k ≤ 1000000 := by
  have h1 := rankIn_nn (O := O) hR i k
  have h2 := share_nn (O := O) hR k
  have h3 := rankIn_le hR hO hS (m := k + 1) (i := i) (by omega) hi
  rw [rankIn_succ, hc] at h3
  have h6 : cntV (l.take e) x ≤ cntV l x := by unfold cntV; exact List.Sublist.countP_le (List.take_sublist e l)
  have h4 : (cntV (l.take e) x : Int) * share O R k ≤ (cntV l x : Int) * share O R k := Int.mul_le_mul_of_nonneg_right (by omega) h2
  have h5 : 0 ≤ (cntV (l.take e) x : Int) * share O R k := Int.mul_nonneg (by omega) h2
  omega
end Go.Proofs.Ytfidojdolbmjdaa
end

section
/- SpecTurns: its loop over all edges. -/
namespace Go.Proofs.Ytfidojdolbmjdaa
open Go.RowKit Go.Shelf
attribute [local go_sem] Oper.semAt_some
/-- What lies in a block of a function's code. -/
def inBlkT (n : Nat) : Code → Option Code
  | .block m c => if m = n then some c else inBlkT n c
  | .loop c => inBlkT n c
  | .seq a b => match inBlkT n a with
    | some c => some c
    | none => inBlkT n b
  | .scope c => inBlkT n c
  | .cond _ a b => match inBlkT n a with
    | some c => some c
    | none => inBlkT n b
  | _ => none
theorem rep_snoc (l : List Int) (m : Nat) (x : Int) : l ++ List.replicate m x ++ [x] = l ++ List.replicate (m + 1) x := by rw [List.append_assoc, List.replicate_succ']
set_option linter.unusedSimpArgs false in
set_option linter.unusedVariables false in
set_option maxRecDepth 100000 in
set_option maxHeartbeats 16000000 in
theorem tn_loop2 {w W : World} {P : Nat → Prop} {G : List Vx} {A C : List Int} {b off n cx ga ca gc cc i : Nat} {idi : Int} {sv : Value} {x0 x1 x2 x3 x4 x5 x8 x10 x11 x16 x17 x18 x19 x20 x21 x22 x23 x24 x25 x26 x27 x28 x29 x30 x31 x32 x33 x34 x35 x36 x37 x38 x39 x40 x41 x42 x43 x44 x45 x46 x47 x48 x49 x50 x51 x52 x53 x54 x55 x56 x57 x58 x59 x60 x61 x62 x63 x64 x65 x66 x67 x68 x69 x70 x71 x72 x73 x74 x75 x76 x77 x78 x79 x80 x81 x82 x83 x84 x85 x86 x87 x88 x89 x90 x91 x92 x93 x94 x95 x96 x97 x98 x99 x100 x101 x102 x103 x104 x105 x106 x107 x108 x109 x110 x111 x112 x113 x114 x115 x116 x117 x118 x119 x120 x121 x122 x123 x124 x125 x126 x127 x128 x129 x130 x131 x132 x133 x134 x135 x136 x137 x138 x139 x140 x141 x142 x143 x144 x145 x146 x147 x148 x149 x150 x151 x152 x153 x154 x155 x156 x157 x158 x159 x160 x161 x162 x163 x164 x165 x166 x167 x168 x169 x170 x171 x172 x173 x174 x175 x176 x177 x178 x179 x180 x181 x182 x183 x184 x185 x186 x187 x188 x189 x190 x191 x192 x193 x194 x195 x196 x197 x198 x199 x200 x201 x202 x203 x204 x205 x206 x207 : Value} {K : Act → World → Prop} {Q' : Exit → Act → World → Prop}
    (hn : n ≤ 20) (hi : i < n) (hGn : G.length = n) (hV : VxAt w P (some ⟨b, off, none⟩) G) (hid : ∀ h : i < G.length, G[i].id = idi)
    (hA : RkOk n A) (hAc : ∀ k, k < n → w.cell? ⟨ga, k, none⟩ = some (.int .i64 (A.getD k 0))) (hCc : ∀ k, k < n → w.cell? ⟨gc, k, none⟩ = some (.int .i64 (C.getD k 0)))
    (hO : ∀ k, ∀ e ∈ (rowsG G).getD k [], e.t.toNat < n) (hct : ∀ k (h : k < G.length), cntE ((rowsG G).getD k []) i = cntV G[k].es idi) (hle : ∀ k (h : k < G.length), ((rowsG G).getD k []).length = G[k].es.length ∧ G[k].es.length ≤ 2048)
    (hs : RwI W 2 w.heap.size sv []) (hB : Below w.heap.size w W)
    (HC : ∀ (wr : World) (sv2 : Value) (y15 y16 y80 y81 y82 y83 y84 y85 y86 y87 y88 y89 y90 y91 y92 y93 y94 y95 y96 y97 y98 y99 y100 y101 y102 y103 y104 y105 y106 y107 y108 y109 y110 y111 y112 y113 y114 y115 y116 y117 y118 y119 y120 y121 y122 y123 y124 y125 y126 y127 y128 y129 y130 : Value), RwI wr 2 w.heap.size sv2 (saidIn (rowsG G) C n i) → Below w.heap.size w wr → K ⟨(List.toArray (x0 :: x1 :: x2 :: x3 :: x4 :: x5 :: (.slice (some ⟨b, off, none⟩) n cx) :: (.slice (some ⟨ga, 0, none⟩) n ca) :: x8 :: (.slice (some ⟨gc, 0, none⟩) n cc) :: x10 :: x11 :: (.int .i64 (i : Nat)) :: (.int .i64 (rankIn (rowsG G) A n i)) :: sv2 :: y15 :: y16 :: x17 :: x18 :: x19 :: x20 :: x21 :: x22 :: x23 :: x24 :: x25 :: x26 :: x27 :: x28 :: x29 :: x30 :: x31 :: x32 :: x33 :: x34 :: x35 :: x36 :: x37 :: x38 :: x39 :: x40 :: x41 :: x42 :: x43 :: x44 :: x45 :: x46 :: x47 :: x48 :: x49 :: x50 :: x51 :: x52 :: x53 :: x54 :: x55 :: x56 :: x57 :: x58 :: x59 :: x60 :: x61 :: x62 :: x63 :: x64 :: x65 :: x66 :: x67 :: x68 :: x69 :: x70 :: x71 :: x72 :: x73 :: x74 :: x75 :: x76 :: x77 :: x78 :: x79 :: y80 :: y81 :: y82 :: y83 :: y84 :: y85 :: y86 :: y87 :: y88 :: y89 :: y90 :: y91 :: y92 :: y93 :: y94 :: y95 :: y96 :: y97 :: y98 :: y99 :: y100 :: y101 :: y102 :: y103 :: y104 :: y105 :: y106 :: y107 :: y108 :: y109 :: y110 :: y111 :: y112 :: y113 :: y114 :: y115 :: y116 :: y117 :: y118 :: y119 :: y120 :: y121 :: y122 :: y123 :: y124 :: y125 :: y126 :: y127 :: y128 :: y129 :: y130 :: x131 :: x132 :: x133 :: x134 :: x135 :: x136 :: x137 :: x138 :: x139 :: x140 :: x141 :: x142 :: x143 :: x144 :: x145 :: x146 :: x147 :: x148 :: x149 :: x150 :: x151 :: x152 :: x153 :: x154 :: x155 :: x156 :: x157 :: x158 :: x159 :: x160 :: x161 :: x162 :: x163 :: x164 :: x165 :: x166 :: x167 :: x168 :: x169 :: x170 :: x171 :: x172 :: x173 :: x174 :: x175 :: x176 :: x177 :: x178 :: x179 :: x180 :: x181 :: x182 :: x183 :: x184 :: x185 :: x186 :: x187 :: x188 :: x189 :: x190 :: x191 :: x192 :: x193 :: x194 :: x195 :: x196 :: x197 :: x198 :: x199 :: x200 :: x201 :: x202 :: x203 :: x204 :: x205 :: x206 :: x207 :: [])), []⟩ wr) :
    Code.wp Try.prog ((Try.f4.body.bind (inBlkT 2)).getD .skip) (Exit.inBlock 2 (Exit.then K Q')) ⟨(List.toArray (x0 :: x1 :: x2 :: x3 :: x4 :: x5 :: (.slice (some ⟨b, off, none⟩) n cx) :: (.slice (some ⟨ga, 0, none⟩) n ca) :: x8 :: (.slice (some ⟨gc, 0, none⟩) n cc) :: x10 :: x11 :: (.int .i64 (i : Nat)) :: (.int .i64 0) :: sv :: (.int .i64 0) :: x16 :: x17 :: x18 :: x19 :: x20 :: x21 :: x22 :: x23 :: x24 :: x25 :: x26 :: x27 :: x28 :: x29 :: x30 :: x31 :: x32 :: x33 :: x34 :: x35 :: x36 :: x37 :: x38 :: x39 :: x40 :: x41 :: x42 :: x43 :: x44 :: x45 :: x46 :: x47 :: x48 :: x49 :: x50 :: x51 :: x52 :: x53 :: x54 :: x55 :: x56 :: x57 :: x58 :: x59 :: x60 :: x61 :: x62 :: x63 :: x64 :: x65 :: x66 :: x67 :: x68 :: x69 :: x70 :: x71 :: x72 :: x73 :: x74 :: x75 :: x76 :: x77 :: x78 :: x79 :: x80 :: x81 :: x82 :: x83 :: x84 :: x85 :: x86 :: x87 :: x88 :: x89 :: x90 :: x91 :: x92 :: x93 :: x94 :: x95 :: x96 :: x97 :: x98 :: x99 :: x100 :: x101 :: x102 :: x103 :: x104 :: x105 :: x106 :: x107 :: x108 :: x109 :: x110 :: x111 :: x112 :: x113 :: x114 :: x115 :: x116 :: x117 :: x118 :: x119 :: x120 :: x121 :: x122 :: x123 :: x124 :: x125 :: x126 :: x127 :: x128 :: x129 :: x130 :: x131 :: x132 :: x133 :: x134 :: x135 :: x136 :: x137 :: x138 :: x139 :: x140 :: x141 :: x142 :: x143 :: x144 :: x145 :: x146 :: x147 :: x148 :: x149 :: x150 :: x151 :: x152 :: x153 :: x154 :: x155 :: x156 :: x157 :: x158 :: x159 :: x160 :: x161 :: x162 :: x163 :: x164 :: x165 :: x166 :: x167 :: x168 :: x169 :: x170 :: x171 :: x172 :: x173 :: x174 :: x175 :: x176 :: x177 :: x178 :: x179 :: x180 :: x181 :: x182 :: x183 :: x184 :: x185 :: x186 :: x187 :: x188 :: x189 :: x190 :: x191 :: x192 :: x193 :: x194 :: x195 :: x196 :: x197 :: x198 :: x199 :: x200 :: x201 :: x202 :: x203 :: x204 :: x205 :: x206 :: x207 :: [])), []⟩ W := by
  obtain ⟨i0, hi0, hz0, hz1, hz2⟩ := info_parts infoSI
  have HH : Hid _ := HC
  obtain ⟨b', off', hbo, hPv, hcl⟩ := hV (by omega)
  cases hbo
  have HCl : Hid _ := hcl
  have HGn : Hid (G.length = n) := hGn
  obtain ⟨ei, eci, q0, -, -, -⟩ := hcl i (by omega)
  rw [hid (by omega)] at q0
  have HId : Hid (w.cell? ⟨b, off + i * 3, none⟩ = some (.int .i64 idi)) := q0
  have HA : Hid (RkOk n A) := hA
  have HAc : Hid (∀ k, k < n → w.cell? ⟨ga, k, none⟩ = some (.int .i64 (A.getD k 0))) := hAc
  have HCc : Hid (∀ k, k < n → w.cell? ⟨gc, k, none⟩ = some (.int .i64 (C.getD k 0))) := hCc
  have HO : Hid (∀ k, ∀ e ∈ (rowsG G).getD k [], e.t.toNat < n) := hO
  have HCt : Hid (∀ k (h : k < G.length), cntE ((rowsG G).getD k []) i = cntV G[k].es idi) := hct
  have HLe : Hid (∀ k (h : k < G.length), ((rowsG G).getD k []).length = G[k].es.length ∧ G[k].es.length ≤ 2048) := hle
  have HLe2 : Hid (∀ k, ((rowsG G).getD k []).length ≤ 2048) := fun k => by
    by_cases h : k < G.length
    · have := hle k h; omega
    · rw [List.getD, List.getElem?_eq_none (by rw [rowsG_n]; omega)]
      simp
  have HIn : Hid (i < n) := hi
  have HS0 : Hid (RwI W 2 w.heap.size sv []) := hs
  have HB0 : Hid (Below w.heap.size w W) := hB
  have hin : (i : Int) < n := by omega
  clear HC hV hPv hcl hGn hid hA hAc hCc hO hct hle hs hB q0
  generalize rowsG G = O at HH HO HCt HLe HLe2
  conv => arg 2; whnf
  go_loopw [13, 14, 15, 16] (fun smv sv kv _ wr => ∃ k : Nat, k ≤ n ∧ kv = .int .i64 k ∧ smv = .int .i64 (rankIn O A k i) ∧ Hid (RwI wr 2 w.heap.size sv (saidIn O C k i)) ∧ Hid (Below w.heap.size w wr)) (fun _ _ kv _ _ => n - (intOf kv).toNat)
  case atStart => exact ⟨0, Nat.zero_le _, rfl, rfl, HS0, HB0⟩
  case round =>
    clear HS0 HB0
    obtain ⟨k, hk, rfl, rfl, HS, HB⟩ := hrel
    by_cases hlk : k < n
    · have hkG : k < G.length := by rw [HGn.out]; exact hlk
      obtain ⟨eo, ec, -, -, e2, hEk⟩ := HCl.out k hkG
      obtain ⟨hl1, hl2⟩ := HLe.out k hkG
      have hctk := HCt.out k hkG
      have HRs : Hid (rankIn O A (k + 1) i = rankIn O A k i + (cntV G[k].es idi : Int) * share O A k) := by show _ = _; rw [rankIn_succ, hctk]
      have HSs : Hid (saidIn O C (k + 1) i = saidIn O C k i ++ List.replicate (cntV G[k].es idi) (C.getD k 0)) := by
        show saidIn O C k i ++ List.replicate (cntE (O.getD k []) i) (C.getD k 0) = _
        rw [hctk]
      have HSp : Hid (∀ e, 0 ≤ rankIn O A k i + (cntV (G[k].es.take e) idi : Int) * share O A k ∧ rankIn O A k i + (cntV (G[k].es.take e) idi : Int) * share O A k ≤ 1000000) := fun e => sum_part HA.out.2.1 HO.out HA.out.2.2 hlk HIn.out hctk
      have HFl : Hid ((saidIn O C k i).length ≤ 20 * 2048) := by have := saidIn_len (X := C) HLe2.out i k; show _ ≤ _; omega
      have HSh : Hid (share O A k = A.getD k 0 / ((G[k].es.length : Nat) : Int)) := by show A.getD k 0 / _ = _; rw [hl1]
      have HSr : Hid (0 ≤ share O A k ∧ share O A k ≤ 1000000) := ⟨share_nn HA.out.2.1 k, share_le HA.out.2.1 HA.out.2.2 hlk⟩
      have hak0 := HA.out.2.1 k
      have HAk : Hid (w.cell? ⟨ga, k, none⟩ = some (.int .i64 (A.getD k 0))) := HAc.out k hlk
      have HCk : Hid (w.cell? ⟨gc, k, none⟩ = some (.int .i64 (C.getD k 0))) := HCc.out k hlk
      obtain ⟨es, hes⟩ : ∃ es, G[k].es = es := ⟨_, rfl⟩
      rw [hes] at e2 hl2 HRs HSs HSp HSh
      obtain ⟨L, hL⟩ : ∃ L, es.length = L := ⟨_, rfl⟩
      have HL : Hid (es.length = L) := hL
      rw [hL] at e2 hl2 HSh
      have HCv : Hid (∀ e (h : e < es.length), cntV (es.take (e + 1)) idi = cntV (es.take e) idi + if es[e].t = idi then 1 else 0) := fun e h => cntV_succ h idi
      have HCl2 : Hid (∀ e, cntV (es.take e) idi ≤ 2048) := fun e => by
        have h1 := cntV_le (es.take e) idi
        rw [List.length_take] at h1
        show _ ≤ _
        omega
      have HEd : Hid (0 < L → ∃ eb eoff, eo = some ⟨eb, eoff, none⟩ ∧ ∀ e (h : e < es.length), w.cell? ⟨eb, eoff + e * 2, none⟩ = some (.int .i64 es[e].t)) := fun h0 => by
        rw [hes] at hEk
        obtain ⟨eb, eoff, rfl, -, hce⟩ := hEk (by omega)
        exact ⟨eb, eoff, rfl, fun e h => (hce e h).1⟩
      have HE2 : Hid (w.cell? ⟨b, off + k * 3 + 2, none⟩ = some (.slice eo L ec)) := e2
      have e2' := (HB.out.cell (lt_cell e2)).trans e2
      have HSk : Hid (k < n) := hlk
      generalize share O A k = sh at HRs HSp HSh HSr
      generalize A.getD k 0 = ak at HSh HAk hak0
      generalize C.getD k 0 = ck at HSs HCk
      generalize hr0 : rankIn O A k i = r0 at HRs HSp ⊢
      generalize hs0 : saidIn O C k i = s0 at HS HSs HFl
      clear e2 hEk hes hL hl1 hctk hr0 hs0
      go_wp2
      go_loopw [13, 14, 16] (fun smv sv ev wr => ∃ e : Nat, e ≤ L ∧ ev = .int .i64 e ∧ smv = .int .i64 (r0 + (cntV (es.take e) idi : Int) * sh) ∧ Hid (RwI wr 2 w.heap.size sv (s0 ++ List.replicate (cntV (es.take e) idi) ck)) ∧ Hid (Below w.heap.size w wr)) (fun _ _ ev _ => L - (intOf ev).toNat)
      case atStart => exact ⟨0, Nat.zero_le _, rfl, by simp [cntV], (show RwI _ _ _ _ _ by simpa [cntV] using HS.out), HB⟩
      case round =>
        clear e2' HS HB
        obtain ⟨e, he, rfl, rfl, HS, HB⟩ := hrel
        have v0 := (HB.out.cell (lt_cell HE2.out)).trans HE2.out
        by_cases hel : e < L
        · have heE : e < es.length := by rw [HL.out]; exact hel
          have HEl : Hid (e < L) := hel
          have hel2 : (e : Int) < L := by omega
          obtain ⟨eb, eoff, rfl, hce⟩ := HEd.out (by omega)
          have h1 := hce e heE
          have v1 := (HB.out.cell (lt_cell h1)).trans h1
          have v2 := (HB.out.cell (lt_cell HId.out)).trans HId.out
          have HCe : Hid (cntV (es.take (e + 1)) idi = cntV (es.take e) idi + if es[e].t = idi then 1 else 0) := HCv.out e heE
          have HP1 : Hid _ := HSp.out (e + 1)
          have HM1 := HCl2.out e
          generalize es[e].t = te at v1 HCe
          generalize hc0 : cntV (es.take e) idi = c0 at HS HCe HM1 ⊢
          obtain ⟨sm, hsm⟩ : ∃ sm, r0 + (c0 : Int) * sh = sm := ⟨_, rfl⟩
          have HSm : Hid (r0 + (c0 : Int) * sh = sm) := hsm
          rw [hsm]
          have hki : (k : Int) < n := by omega
          clear hce h1 hsm hc0
          go_upto_region 21 with (fail)
          refine wp_calm ?_
          refine wp_region_L [] (fun w' : World => w'.cell? ⟨b, off + k * 3 + 2, none⟩ = some (.slice (some ⟨eb, eoff, none⟩) L ec) ∧ w'.cell? ⟨eb, eoff + e * 2, none⟩ = some (.int .i64 te) ∧ w'.cell? ⟨b, off + i * 3, none⟩ = some (.int .i64 idi)) (by kernel_rfl) ?_
          obtain ⟨Wd, hWd⟩ : ∃ Wd, World.drew wr = Wd := ⟨_, rfl⟩
          have hbd : Below wr.heap.size wr Wd := by rw [← hWd]; exact bel_drewN (Below.refl _ _) 1
          rw [hWd]
          have hS : (fun w' : World => w'.cell? ⟨b, off + k * 3 + 2, none⟩ = some (.slice (some ⟨eb, eoff, none⟩) L ec) ∧ w'.cell? ⟨eb, eoff + e * 2, none⟩ = some (.int .i64 te) ∧ w'.cell? ⟨b, off + i * 3, none⟩ = some (.int .i64 idi)) Wd := ⟨(hbd.cell (lt_cell v0)).trans v0, (hbd.cell (lt_cell v1)).trans v1, (hbd.cell (lt_cell v2)).trans v2⟩
          refine wpAnyL_take (i := 0) 96 (v := .slice (some ⟨b, off, none⟩) n cx) rfl rfl (by kernel_rfl) (by kernel_rfl) (by kernel_rfl) (by kernel_rfl) (by kernel_rfl) (by kernel_rfl) (fun _ _ _ h => h) hS (by rfl) (by intro w' hSw; obtain ⟨y0, y1, y2⟩ := hSw; go_simp <;> with_reducible rfl) ?_
          simp only [Act.put, List.setIfInBounds_toArray, List.set_cons_zero, List.set_cons_succ]
          refine wpAnyL_take (i := 1) 97 (v := .int .i64 (k : Int)) rfl rfl (by kernel_rfl) (by kernel_rfl) (by kernel_rfl) (by kernel_rfl) (by kernel_rfl) (by kernel_rfl) (fun _ _ _ h => h) hS (by rfl) (by intro w' hSw; obtain ⟨y0, y1, y2⟩ := hSw; go_simp <;> with_reducible rfl) ?_
          simp only [Act.put, List.setIfInBounds_toArray, List.set_cons_zero, List.set_cons_succ]
          refine wpAnyL_take (i := 2) 98 (v := .pointer (some ⟨b, off + k * 3, none⟩)) rfl rfl (by kernel_rfl) (by kernel_rfl) (by kernel_rfl) (by kernel_rfl) (by kernel_rfl) (by kernel_rfl) (fun _ _ _ h => h) hS (by rfl) (by intro w' hSw; obtain ⟨y0, y1, y2⟩ := hSw; go_simp <;> with_reducible rfl) ?_
          simp only [Act.put, List.setIfInBounds_toArray, List.set_cons_zero, List.set_cons_succ]
          refine wpAnyL_take (i := 3) 99 (v := .pointer (some ⟨b, off + k * 3 + 2, none⟩)) rfl rfl (by kernel_rfl) (by kernel_rfl) (by kernel_rfl) (by kernel_rfl) (by kernel_rfl) (by kernel_rfl) (fun _ _ _ h => h) hS (by rfl) (by intro w' hSw; obtain ⟨y0, y1, y2⟩ := hSw; go_simp <;> with_reducible rfl) ?_
          simp only [Act.put, List.setIfInBounds_toArray, List.set_cons_zero, List.set_cons_succ]
          refine wpAnyL_take (i := 4) 100 (v := .slice (some ⟨eb, eoff, none⟩) L ec) rfl rfl (by kernel_rfl) (by kernel_rfl) (by kernel_rfl) (by kernel_rfl) (by kernel_rfl) (by kernel_rfl) (fun _ _ _ h => h) hS (by rfl) (by intro w' hSw; obtain ⟨y0, y1, y2⟩ := hSw; go_simp <;> with_reducible rfl) ?_
          simp only [Act.put, List.setIfInBounds_toArray, List.set_cons_zero, List.set_cons_succ]
          refine wpAnyL_take (i := 5) 101 (v := .int .i64 (e : Int)) rfl rfl (by kernel_rfl) (by kernel_rfl) (by kernel_rfl) (by kernel_rfl) (by kernel_rfl) (by kernel_rfl) (fun _ _ _ h => h) hS (by rfl) (by intro w' hSw; obtain ⟨y0, y1, y2⟩ := hSw; go_simp <;> with_reducible rfl) ?_
          simp only [Act.put, List.setIfInBounds_toArray, List.set_cons_zero, List.set_cons_succ]
          refine wpAnyL_take (i := 6) 102 (v := .pointer (some ⟨eb, eoff + e * 2, none⟩)) rfl rfl (by kernel_rfl) (by kernel_rfl) (by kernel_rfl) (by kernel_rfl) (by kernel_rfl) (by kernel_rfl) (fun _ _ _ h => h) hS (by rfl) (by intro w' hSw; obtain ⟨y0, y1, y2⟩ := hSw; go_simp <;> with_reducible rfl) ?_
          simp only [Act.put, List.setIfInBounds_toArray, List.set_cons_zero, List.set_cons_succ]
          refine wpAnyL_take (i := 7) 103 (v := .pointer (some ⟨eb, eoff + e * 2, none⟩)) rfl rfl (by kernel_rfl) (by kernel_rfl) (by kernel_rfl) (by kernel_rfl) (by kernel_rfl) (by kernel_rfl) (fun _ _ _ h => h) hS (by rfl) (by intro w' hSw; obtain ⟨y0, y1, y2⟩ := hSw; go_simp <;> with_reducible rfl) ?_
          simp only [Act.put, List.setIfInBounds_toArray, List.set_cons_zero, List.set_cons_succ]
          refine wpAnyL_take (i := 8) 104 (v := .int .i64 te) rfl rfl (by kernel_rfl) (by kernel_rfl) (by kernel_rfl) (by kernel_rfl) (by kernel_rfl) (by kernel_rfl) (fun _ _ _ h => h) hS (by rfl) (by intro w' hSw; obtain ⟨y0, y1, y2⟩ := hSw; go_simp <;> with_reducible rfl) ?_
          simp only [Act.put, List.setIfInBounds_toArray, List.set_cons_zero, List.set_cons_succ]
          refine wpAnyL_take (i := 9) 105 (v := .slice (some ⟨b, off, none⟩) n cx) rfl rfl (by kernel_rfl) (by kernel_rfl) (by kernel_rfl) (by kernel_rfl) (by kernel_rfl) (by kernel_rfl) (fun _ _ _ h => h) hS (by rfl) (by intro w' hSw; obtain ⟨y0, y1, y2⟩ := hSw; go_simp <;> with_reducible rfl) ?_
          simp only [Act.put, List.setIfInBounds_toArray, List.set_cons_zero, List.set_cons_succ]
          refine wpAnyL_take (i := 10) 106 (v := .int .i64 (i : Int)) rfl rfl (by kernel_rfl) (by kernel_rfl) (by kernel_rfl) (by kernel_rfl) (by kernel_rfl) (by kernel_rfl) (fun _ _ _ h => h) hS (by rfl) (by intro w' hSw; obtain ⟨y0, y1, y2⟩ := hSw; go_simp <;> with_reducible rfl) ?_
          simp only [Act.put, List.setIfInBounds_toArray, List.set_cons_zero, List.set_cons_succ]
          refine wpAnyL_take (i := 11) 107 (v := .pointer (some ⟨b, off + i * 3, none⟩)) rfl rfl (by kernel_rfl) (by kernel_rfl) (by kernel_rfl) (by kernel_rfl) (by kernel_rfl) (by kernel_rfl) (fun _ _ _ h => h) hS (by rfl) (by intro w' hSw; obtain ⟨y0, y1, y2⟩ := hSw; go_simp <;> with_reducible rfl) ?_
          simp only [Act.put, List.setIfInBounds_toArray, List.set_cons_zero, List.set_cons_succ]
          refine wpAnyL_take (i := 12) 108 (v := .pointer (some ⟨b, off + i * 3, none⟩)) rfl rfl (by kernel_rfl) (by kernel_rfl) (by kernel_rfl) (by kernel_rfl) (by kernel_rfl) (by kernel_rfl) (fun _ _ _ h => h) hS (by rfl) (by intro w' hSw; obtain ⟨y0, y1, y2⟩ := hSw; go_simp <;> with_reducible rfl) ?_
          simp only [Act.put, List.setIfInBounds_toArray, List.set_cons_zero, List.set_cons_succ]
          refine wpAnyL_take (i := 13) 109 (v := .int .i64 idi) rfl rfl (by kernel_rfl) (by kernel_rfl) (by kernel_rfl) (by kernel_rfl) (by kernel_rfl) (by kernel_rfl) (fun _ _ _ h => h) hS (by rfl) (by intro w' hSw; obtain ⟨y0, y1, y2⟩ := hSw; go_simp <;> with_reducible rfl) ?_
          simp only [Act.put, List.setIfInBounds_toArray, List.set_cons_zero, List.set_cons_succ]
          refine wpAnyL_take (i := 14) 110 (v := .bool (te == idi)) rfl rfl (by kernel_rfl) (by kernel_rfl) (by kernel_rfl) (by kernel_rfl) (by kernel_rfl) (by kernel_rfl) (fun _ _ _ h => h) hS (by rfl) (by intro w' hSw; obtain ⟨y0, y1, y2⟩ := hSw; go_simp <;> with_reducible rfl) ?_
          simp only [Act.put, List.setIfInBounds_toArray, List.set_cons_zero, List.set_cons_succ]
          refine wpAnyL_done (by kernel_rfl) ?_ _
          clear hS hWd
          have HBd : Hid (Below w.heap.size w Wd) := HB.out.trans (hbd.mono HB.out.size)
          have HSd : Hid (RwI Wd 2 w.heap.size u14 (s0 ++ List.replicate c0 ck)) := ri_new HS.out hbd
          clear v0 v1 v2 hbd HS HB
          by_cases ht : te = idi
          · subst ht
            have HC1 : Hid (cntV (es.take (e + 1)) te = c0 + 1) := by have h := HCe.out; rw [if_pos rfl] at h; exact h
            have HP2 : 0 ≤ sm + sh ∧ sm + sh ≤ 1000000 := by
              have h := HP1.out
              rw [HC1.out] at h
              have e1 : r0 + ((c0 + 1 : Nat) : Int) * sh = sm + sh := by rw [← HSm.out, Int.natCast_add, Int.add_mul]; simp; omega
              rw [e1] at h
              exact h
            have HE1 : Hid (r0 + ((c0 + 1 : Nat) : Int) * sh = sm + sh) := by show _ = _; rw [← HSm.out, Int.natCast_add, Int.add_mul]; simp; omega
            obtain ⟨hp1, hp2⟩ := HP2
            obtain ⟨hsh0, hsh1⟩ := HSr.out
            have e1 : Int.tdiv ak (L : Int) = sh := by rw [Int.tdiv_eq_ediv_of_nonneg hak0, HSh.out]
            have e2 : ak / (L : Int) = sh := HSh.out.symm
            have e3 : IntKind.i64.wrap sh = sh := IntWalk.i64_in _ (by omega)
            have e4 : IntKind.i64.wrap (sm + sh) = sm + sh := IntWalk.i64_in _ (by omega)
            have e5 : wrap64 (sm + sh) = sm + sh := by unfold wrap64; omega
            have e6 : ¬ (L : Int) = 0 := by omega
            have e7 : ¬ L = 0 := by omega
            obtain ⟨W1, hW1⟩ : ∃ W1, Wd = W1 := ⟨_, rfl⟩
            rw [hW1] at HBd HSd ⊢
            clear hW1
            have u0 := (HBd.out.cell (lt_cell HAk.out)).trans HAk.out
            have u1 := (HBd.out.cell (lt_cell HE2.out)).trans HE2.out
            go_upto_region 22 with (fail)
            refine wp_calm ?_
            refine wp_region_L [] (fun w' : World => w'.cell? ⟨ga, k, none⟩ = some (.int .i64 ak) ∧ w'.cell? ⟨b, off + k * 3 + 2, none⟩ = some (.slice (some ⟨eb, eoff, none⟩) L ec)) (by kernel_rfl) ?_
            obtain ⟨We, hWe⟩ : ∃ We, World.drew W1 = We := ⟨_, rfl⟩
            have hbe : Below W1.heap.size W1 We := by rw [← hWe]; exact bel_drewN (Below.refl _ _) 1
            rw [hWe]
            have hS : (fun w' : World => w'.cell? ⟨ga, k, none⟩ = some (.int .i64 ak) ∧ w'.cell? ⟨b, off + k * 3 + 2, none⟩ = some (.slice (some ⟨eb, eoff, none⟩) L ec)) We := ⟨(hbe.cell (lt_cell u0)).trans u0, (hbe.cell (lt_cell u1)).trans u1⟩
            refine wpAnyL_take (i := 0) 111 (v := .int .i64 sm) rfl rfl (by kernel_rfl) (by kernel_rfl) (by kernel_rfl) (by kernel_rfl) (by kernel_rfl) (by kernel_rfl) (fun _ _ _ h => h) hS (by rfl) (by intro w' hSw; obtain ⟨y0, y1⟩ := hSw; go_simp <;> with_reducible rfl) ?_
            simp only [Act.put, List.setIfInBounds_toArray, List.set_cons_zero, List.set_cons_succ]
            refine wpAnyL_take (i := 1) 112 (v := .slice (some ⟨ga, 0, none⟩) n ca) rfl rfl (by kernel_rfl) (by kernel_rfl) (by kernel_rfl) (by kernel_rfl) (by kernel_rfl) (by kernel_rfl) (fun _ _ _ h => h) hS (by rfl) (by intro w' hSw; obtain ⟨y0, y1⟩ := hSw; go_simp <;> with_reducible rfl) ?_
            simp only [Act.put, List.setIfInBounds_toArray, List.set_cons_zero, List.set_cons_succ]
            refine wpAnyL_take (i := 2) 113 (v := .int .i64 (k : Int)) rfl rfl (by kernel_rfl) (by kernel_rfl) (by kernel_rfl) (by kernel_rfl) (by kernel_rfl) (by kernel_rfl) (fun _ _ _ h => h) hS (by rfl) (by intro w' hSw; obtain ⟨y0, y1⟩ := hSw; go_simp <;> with_reducible rfl) ?_
            simp only [Act.put, List.setIfInBounds_toArray, List.set_cons_zero, List.set_cons_succ]
            refine wpAnyL_take (i := 3) 114 (v := .pointer (some ⟨ga, k, none⟩)) rfl rfl (by kernel_rfl) (by kernel_rfl) (by kernel_rfl) (by kernel_rfl) (by kernel_rfl) (by kernel_rfl) (fun _ _ _ h => h) hS (by rfl) (by intro w' hSw; obtain ⟨y0, y1⟩ := hSw; go_simp <;> with_reducible rfl) ?_
            simp only [Act.put, List.setIfInBounds_toArray, List.set_cons_zero, List.set_cons_succ]
            refine wpAnyL_take (i := 4) 115 (v := .int .i64 ak) rfl rfl (by kernel_rfl) (by kernel_rfl) (by kernel_rfl) (by kernel_rfl) (by kernel_rfl) (by kernel_rfl) (fun _ _ _ h => h) hS (by rfl) (by intro w' hSw; obtain ⟨y0, y1⟩ := hSw; go_simp <;> with_reducible rfl) ?_
            simp only [Act.put, List.setIfInBounds_toArray, List.set_cons_zero, List.set_cons_succ]
            refine wpAnyL_take (i := 5) 116 (v := .slice (some ⟨b, off, none⟩) n cx) rfl rfl (by kernel_rfl) (by kernel_rfl) (by kernel_rfl) (by kernel_rfl) (by kernel_rfl) (by kernel_rfl) (fun _ _ _ h => h) hS (by rfl) (by intro w' hSw; obtain ⟨y0, y1⟩ := hSw; go_simp <;> with_reducible rfl) ?_
            simp only [Act.put, List.setIfInBounds_toArray, List.set_cons_zero, List.set_cons_succ]
            refine wpAnyL_take (i := 6) 117 (v := .int .i64 (k : Int)) rfl rfl (by kernel_rfl) (by kernel_rfl) (by kernel_rfl) (by kernel_rfl) (by kernel_rfl) (by kernel_rfl) (fun _ _ _ h => h) hS (by rfl) (by intro w' hSw; obtain ⟨y0, y1⟩ := hSw; go_simp <;> with_reducible rfl) ?_
            simp only [Act.put, List.setIfInBounds_toArray, List.set_cons_zero, List.set_cons_succ]
            refine wpAnyL_take (i := 7) 118 (v := .pointer (some ⟨b, off + k * 3, none⟩)) rfl rfl (by kernel_rfl) (by kernel_rfl) (by kernel_rfl) (by kernel_rfl) (by kernel_rfl) (by kernel_rfl) (fun _ _ _ h => h) hS (by rfl) (by intro w' hSw; obtain ⟨y0, y1⟩ := hSw; go_simp <;> with_reducible rfl) ?_
            simp only [Act.put, List.setIfInBounds_toArray, List.set_cons_zero, List.set_cons_succ]
            refine wpAnyL_take (i := 8) 119 (v := .pointer (some ⟨b, off + k * 3 + 2, none⟩)) rfl rfl (by kernel_rfl) (by kernel_rfl) (by kernel_rfl) (by kernel_rfl) (by kernel_rfl) (by kernel_rfl) (fun _ _ _ h => h) hS (by rfl) (by intro w' hSw; obtain ⟨y0, y1⟩ := hSw; go_simp <;> with_reducible rfl) ?_
            simp only [Act.put, List.setIfInBounds_toArray, List.set_cons_zero, List.set_cons_succ]
            refine wpAnyL_take (i := 9) 120 (v := .slice (some ⟨eb, eoff, none⟩) L ec) rfl rfl (by kernel_rfl) (by kernel_rfl) (by kernel_rfl) (by kernel_rfl) (by kernel_rfl) (by kernel_rfl) (fun _ _ _ h => h) hS (by rfl) (by intro w' hSw; obtain ⟨y0, y1⟩ := hSw; go_simp <;> with_reducible rfl) ?_
            simp only [Act.put, List.setIfInBounds_toArray, List.set_cons_zero, List.set_cons_succ]
            refine wpAnyL_take (i := 10) 121 (v := .int .i64 (L : Int)) rfl rfl (by kernel_rfl) (by kernel_rfl) (by kernel_rfl) (by kernel_rfl) (by kernel_rfl) (by kernel_rfl) (fun _ _ _ h => h) hS (by rfl) (by intro w' hSw; obtain ⟨y0, y1⟩ := hSw; go_simp <;> with_reducible rfl) ?_
            simp only [Act.put, List.setIfInBounds_toArray, List.set_cons_zero, List.set_cons_succ]
            refine wpAnyL_take (i := 11) 122 (v := .int .i64 sh) rfl rfl (by kernel_rfl) (by kernel_rfl) (by kernel_rfl) (by kernel_rfl) (by kernel_rfl) (by kernel_rfl) (fun _ _ _ h => h) hS (by rfl) (by intro w' hSw; obtain ⟨y0, y1⟩ := hSw; go_simp <;> with_reducible rfl) ?_
            simp only [Act.put, List.setIfInBounds_toArray, List.set_cons_zero, List.set_cons_succ]
            refine wpAnyL_take (i := 12) 123 (v := .int .i64 (sm + sh)) rfl rfl (by kernel_rfl) (by kernel_rfl) (by kernel_rfl) (by kernel_rfl) (by kernel_rfl) (by kernel_rfl) (fun _ _ _ h => h) hS (by rfl) (by intro w' hSw; obtain ⟨y0, y1⟩ := hSw; go_simp <;> with_reducible rfl) ?_
            simp only [Act.put, List.setIfInBounds_toArray, List.set_cons_zero, List.set_cons_succ]
            refine wpAnyL_take (i := 13) 13 (v := .int .i64 (sm + sh)) rfl rfl (by kernel_rfl) (by kernel_rfl) (by kernel_rfl) (by kernel_rfl) (by kernel_rfl) (by kernel_rfl) (fun _ _ _ h => h) hS (by rfl) (by intro w' hSw; obtain ⟨y0, y1⟩ := hSw; go_simp <;> with_reducible rfl) ?_
            simp only [Act.put, List.setIfInBounds_toArray, List.set_cons_zero, List.set_cons_succ]
            refine wpAnyL_done (by kernel_rfl) ?_ _
            clear hS hWe
            have HBe : Hid (Below w.heap.size w We) := HBd.out.trans (hbe.mono HBd.out.size)
            have HSe : Hid (RwI We 2 w.heap.size u14 (s0 ++ List.replicate c0 ck)) := ri_new HSd.out hbe
            clear e1 e2 e3 e4 e5 u0 u1 hbe HSd HBd
            have u2 := (HBe.out.cell (lt_cell HCk.out)).trans HCk.out
            have hfl := HFl.out
            have HLn : Hid ((s0 ++ List.replicate c0 ck).length ≤ 50000) := by show _ ≤ _; rw [List.length_append, List.length_replicate]; omega
            go_wp2_with (at_builtin; refine wpList_append_own_at _ rfl _ _ 36 rfl w.heap.size 2 i0 (.int .i64 0) 1 8 Try.underlying36 hi0 hz0 hz1 hz2 rfl (by decide) u14 _ _ rfl (ri_new HSe.out (one_new _ _)) ⟨We.heap.size, 0, none⟩ 1 1 [.int .i64 ck] rfl rfl (w_one (heap_alloc_new We (.cells #[.int .i64 ck] 2))) (by intro u hu; simp at hu; subst hu; rfl) (by have := HLn.out; unfold maxLen; omega) (by have := HLn.out; omega) (by have := HBe.out.size; rw [World.size_alloc]; omega) ?_)
            intro v' w1 hown hgrow _ _
            have HR1 : Hid (RwI w1 2 w.heap.size v' (s0 ++ List.replicate (c0 + 1) ck)) := by
              rw [← rep_snoc]
              show World.ownsRow _ _ _ _ _ _ _
              rw [List.length_append, List.map_append]
              simpa using hown
            have HB1 : Hid (Below w.heap.size w w1) := by
              have h1 : Below w.heap.size w (We.alloc (.cells #[.int .i64 ck] 2)) := HBe.out.trans ((one_new We _).mono HBe.out.size)
              have f1 : Fr (We.alloc (.cells #[.int .i64 ck] 2)) w1 (fun k => u14.ownBlock = some k) := Fr.grown hgrow (fun k hk => hk)
              exact h1.trans (f1.below h1.size (fun k hk => by have := (ri_lt HSe.out hk).1; omega))
            clear hown hgrow u2
            go_wp2
            go_roundw
            case rel => exact ⟨e + 1, HEl.out, by go_num, (by rw [HC1.out, HE1.out]), (by have h := HR1.out; rw [← HC1.out] at h; exact h), HB1⟩
            case measure => have := HEl.out; simp [intOf]; omega
          · have ht2 : (te == idi) = false := by simpa using ht
            have HC1 : Hid (cntV (es.take (e + 1)) idi = c0) := by have h := HCe.out; rw [if_neg ht, Nat.add_zero] at h; exact h
            go_wp2
            go_roundw
            case rel => exact ⟨e + 1, HEl.out, by go_num, (by rw [HC1.out, HSm.out]), (by have h := HSd.out; rw [← HC1.out] at h; exact h), HBd⟩
            case measure => have := HEl.out; simp [intOf]; omega
        · obtain rfl : e = L := by omega
          have HR9 : Hid (r0 + (cntV (es.take e) idi : Int) * sh = rankIn O A (k + 1) i) := by show _ = _; rw [HRs.out, List.take_of_length_le (by rw [HL.out]; exact Nat.le_refl _)]
          have HS9 : Hid (RwI wr 2 w.heap.size u14 (saidIn O C (k + 1) i)) := by
            have h := HS.out
            rw [List.take_of_length_le (by rw [HL.out]; exact Nat.le_refl _)] at h
            rw [HSs.out]
            exact h
          rw [HR9.out]
          go_wp2
          go_roundw
          case rel => exact ⟨k + 1, HSk.out, by go_num, rfl, HS9, HB⟩
          case measure => have := HSk.out; simp [intOf]; omega
    · obtain rfl : k = n := by omega
      go_wp2
      exact HH.out _ _ _ _ _ _ _ _ _ _ _ _ _ _ _ _ _ _ _ _ _ _ _ _ _ _ _ _ _ _ _ _ _ _ _ _ _ _ _ _ _ _ _ _ _ _ _ _ _ _ _ _ _ _ _ HS.out HB.out
end Go.Proofs.Ytfidojdolbmjdaa
end

section
/- SpecTurns: its loop over what was said. -/
namespace Go.Proofs.Ytfidojdolbmjdaa
open Go.RowKit Go.Shelf
attribute [local go_sem] Oper.semAt_some
theorem count_succ {l : List Int} {e : Nat} (h : e < l.length) (x : Int) : (l.take (e + 1)).count x = (l.take e).count x + if l[e] = x then 1 else 0 := by
  rw [List.take_add_one, List.getElem?_eq_getElem h]
  exact count_snoc _ _ _
set_option linter.unusedSimpArgs false in
set_option linter.unusedVariables false in
set_option maxRecDepth 100000 in
set_option maxHeartbeats 16000000 in
theorem tn_loop6 {w W : World} {S : List Int} {so : Option Addr} {ls sc : Nat} {d0 : Int} {lo : Nat} {x0 x1 x2 x3 x4 x5 x6 x7 x8 x9 x10 x11 x12 x13 x15 x16 x20 x21 x22 x23 x24 x25 x26 x27 x28 x29 x30 x31 x32 x33 x34 x35 x36 x37 x38 x39 x40 x41 x42 x43 x44 x45 x46 x47 x48 x49 x50 x51 x52 x53 x54 x55 x56 x57 x58 x59 x60 x61 x62 x63 x64 x65 x66 x67 x68 x69 x70 x71 x72 x73 x74 x75 x76 x77 x78 x79 x80 x81 x82 x83 x84 x85 x86 x87 x88 x89 x90 x91 x92 x93 x94 x95 x96 x97 x98 x99 x100 x101 x102 x103 x104 x105 x106 x107 x108 x109 x110 x111 x112 x113 x114 x115 x116 x117 x118 x119 x120 x121 x122 x123 x124 x125 x126 x127 x128 x129 x130 x131 x132 x133 x134 x135 x136 x137 x138 x139 x140 x141 x142 x143 x144 x145 x146 x147 x148 x149 x150 x151 x152 x153 x154 x155 x156 x157 x158 x159 x160 x161 x162 x163 x164 x165 x166 x167 x168 x169 x170 x171 x172 x173 x174 x175 x176 x177 x178 x179 x180 x181 x182 x183 x184 x185 x186 x187 x188 x189 x190 x191 x192 x193 x194 x195 x196 x197 x198 x199 x200 x201 x202 x203 x204 x205 x206 x207 : Value} {K : Act → World → Prop} {Q' : Exit → Act → World → Prop}
    (hls : S.length = ls) (hl : ls ≤ 1000000) (hs : RwI W 2 lo (.slice so ls sc) S)
    (HC : ∀ (wr : World) (y18 y19 y20 y21 y147 y148 y149 y150 y151 y152 y153 y154 y155 y156 y157 y158 y159 y160 y161 y162 y163 y164 y165 y166 y167 y168 y169 y170 y171 y172 y173 y174 y175 y176 y177 y178 y179 y180 y181 y182 y183 y184 y185 y186 y187 y188 y189 y190 : Value), Below W.heap.size W wr → K ⟨(List.toArray (x0 :: x1 :: x2 :: x3 :: x4 :: x5 :: x6 :: x7 :: x8 :: x9 :: x10 :: x11 :: x12 :: x13 :: (.slice so ls sc) :: x15 :: x16 :: (.int .i64 (bestOf S d0)) :: y18 :: y19 :: y20 :: y21 :: x22 :: x23 :: x24 :: x25 :: x26 :: x27 :: x28 :: x29 :: x30 :: x31 :: x32 :: x33 :: x34 :: x35 :: x36 :: x37 :: x38 :: x39 :: x40 :: x41 :: x42 :: x43 :: x44 :: x45 :: x46 :: x47 :: x48 :: x49 :: x50 :: x51 :: x52 :: x53 :: x54 :: x55 :: x56 :: x57 :: x58 :: x59 :: x60 :: x61 :: x62 :: x63 :: x64 :: x65 :: x66 :: x67 :: x68 :: x69 :: x70 :: x71 :: x72 :: x73 :: x74 :: x75 :: x76 :: x77 :: x78 :: x79 :: x80 :: x81 :: x82 :: x83 :: x84 :: x85 :: x86 :: x87 :: x88 :: x89 :: x90 :: x91 :: x92 :: x93 :: x94 :: x95 :: x96 :: x97 :: x98 :: x99 :: x100 :: x101 :: x102 :: x103 :: x104 :: x105 :: x106 :: x107 :: x108 :: x109 :: x110 :: x111 :: x112 :: x113 :: x114 :: x115 :: x116 :: x117 :: x118 :: x119 :: x120 :: x121 :: x122 :: x123 :: x124 :: x125 :: x126 :: x127 :: x128 :: x129 :: x130 :: x131 :: x132 :: x133 :: x134 :: x135 :: x136 :: x137 :: x138 :: x139 :: x140 :: x141 :: x142 :: x143 :: x144 :: x145 :: x146 :: y147 :: y148 :: y149 :: y150 :: y151 :: y152 :: y153 :: y154 :: y155 :: y156 :: y157 :: y158 :: y159 :: y160 :: y161 :: y162 :: y163 :: y164 :: y165 :: y166 :: y167 :: y168 :: y169 :: y170 :: y171 :: y172 :: y173 :: y174 :: y175 :: y176 :: y177 :: y178 :: y179 :: y180 :: y181 :: y182 :: y183 :: y184 :: y185 :: y186 :: y187 :: y188 :: y189 :: y190 :: x191 :: x192 :: x193 :: x194 :: x195 :: x196 :: x197 :: x198 :: x199 :: x200 :: x201 :: x202 :: x203 :: x204 :: x205 :: x206 :: x207 :: [])), []⟩ wr) :
    Code.wp Try.prog ((Try.f4.body.bind (inBlkT 6)).getD .skip) (Exit.inBlock 6 (Exit.then K Q')) ⟨(List.toArray (x0 :: x1 :: x2 :: x3 :: x4 :: x5 :: x6 :: x7 :: x8 :: x9 :: x10 :: x11 :: x12 :: x13 :: (.slice so ls sc) :: x15 :: x16 :: (.int .i64 d0) :: (.int .i64 0) :: (.int .i64 0) :: x20 :: x21 :: x22 :: x23 :: x24 :: x25 :: x26 :: x27 :: x28 :: x29 :: x30 :: x31 :: x32 :: x33 :: x34 :: x35 :: x36 :: x37 :: x38 :: x39 :: x40 :: x41 :: x42 :: x43 :: x44 :: x45 :: x46 :: x47 :: x48 :: x49 :: x50 :: x51 :: x52 :: x53 :: x54 :: x55 :: x56 :: x57 :: x58 :: x59 :: x60 :: x61 :: x62 :: x63 :: x64 :: x65 :: x66 :: x67 :: x68 :: x69 :: x70 :: x71 :: x72 :: x73 :: x74 :: x75 :: x76 :: x77 :: x78 :: x79 :: x80 :: x81 :: x82 :: x83 :: x84 :: x85 :: x86 :: x87 :: x88 :: x89 :: x90 :: x91 :: x92 :: x93 :: x94 :: x95 :: x96 :: x97 :: x98 :: x99 :: x100 :: x101 :: x102 :: x103 :: x104 :: x105 :: x106 :: x107 :: x108 :: x109 :: x110 :: x111 :: x112 :: x113 :: x114 :: x115 :: x116 :: x117 :: x118 :: x119 :: x120 :: x121 :: x122 :: x123 :: x124 :: x125 :: x126 :: x127 :: x128 :: x129 :: x130 :: x131 :: x132 :: x133 :: x134 :: x135 :: x136 :: x137 :: x138 :: x139 :: x140 :: x141 :: x142 :: x143 :: x144 :: x145 :: x146 :: x147 :: x148 :: x149 :: x150 :: x151 :: x152 :: x153 :: x154 :: x155 :: x156 :: x157 :: x158 :: x159 :: x160 :: x161 :: x162 :: x163 :: x164 :: x165 :: x166 :: x167 :: x168 :: x169 :: x170 :: x171 :: x172 :: x173 :: x174 :: x175 :: x176 :: x177 :: x178 :: x179 :: x180 :: x181 :: x182 :: x183 :: x184 :: x185 :: x186 :: x187 :: x188 :: x189 :: x190 :: x191 :: x192 :: x193 :: x194 :: x195 :: x196 :: x197 :: x198 :: x199 :: x200 :: x201 :: x202 :: x203 :: x204 :: x205 :: x206 :: x207 :: [])), []⟩ W := by
  have HH : Hid _ := HC
  have HLs : Hid (S.length = ls) := hls
  obtain ⟨_, hat⟩ := ri_at hs
  have HAt : Hid (∀ h0 : 0 < ls, ∃ gs, so = some ⟨gs, 0, none⟩ ∧ ∀ j, j < ls → W.cell? ⟨gs, j, none⟩ = some (.int .i64 (S.getD j 0))) := fun h0 => by
    obtain ⟨gs, rfl, -, hc⟩ := hat (by omega)
    exact ⟨gs, rfl, fun j hj => by rw [← get_d (by omega : j < S.length)]; exact (hc j (by omega)).1⟩
  clear HC hls hat hs
  conv => arg 2; whnf
  go_loopw [17, 18, 19, 20, 21] (fun bv mv kv _ _ wr => ∃ (k mo : Nat) (be : Int), k ≤ ls ∧ kv = .int .i64 k ∧ bv = .int .i64 be ∧ mv = .int .i64 mo ∧ mo ≤ 1000000 ∧ Hid ((S.take k).foldl (bestF S) (d0, 0) = (be, mo)) ∧ Hid (Below W.heap.size W wr)) (fun _ _ kv _ _ _ => ls - (intOf kv).toNat)
  case atStart => exact ⟨0, 0, d0, Nat.zero_le _, rfl, rfl, rfl, Nat.zero_le _, rfl, Below.refl _ _⟩
  case round =>
    obtain ⟨k, mo, be, hk, rfl, rfl, rfl, hmo, HF, HB⟩ := hrel
    by_cases hlk : k < ls
    · have HK : Hid (k < ls) := hlk
      have hki : (k : Int) < ls := by omega
      obtain ⟨gs, rfl, hcs⟩ := HAt.out (by omega)
      have HCs : Hid (∀ j, j < ls → W.cell? ⟨gs, j, none⟩ = some (.int .i64 (S.getD j 0))) := hcs
      have HFs : Hid ((S.take (k + 1)).foldl (bestF S) (d0, 0) = bestF S (be, mo) (S.getD k 0)) := by
        show _ = _
        have hkS : k < S.length := by rw [HLs.out]; exact hlk
        rw [List.take_add_one, List.getElem?_eq_getElem hkS, List.foldl_append, HF.out, get_d hkS]
        rfl
      have HCk : Hid (S.count (S.getD k 0) ≤ ls) := by rw [← HLs.out]; exact List.count_le_length
      have HCt : Hid (∀ e, e < ls → (S.take (e + 1)).count (S.getD k 0) = (S.take e).count (S.getD k 0) + if S.getD e 0 = S.getD k 0 then 1 else 0) := fun e he => by
        have heS : e < S.length := by rw [HLs.out]; exact he
        rw [count_succ heS, get_d heS]
      have HCm : Hid (∀ e, (S.take e).count (S.getD k 0) ≤ e) := fun e => by
        have h := List.count_le_length (a := S.getD k 0) (l := S.take e)
        rw [List.length_take] at h
        show _ ≤ _
        omega
      have HYk : Hid (W.cell? ⟨gs, k, none⟩ = some (.int .i64 (S.getD k 0))) := hcs k hlk
      generalize S.getD k 0 = yk at HFs HCk HCt HCm HYk
      clear hcs HF
      go_wp2
      go_loopw [20, 21] (fun nv ev wr => ∃ e : Nat, e ≤ ls ∧ ev = .int .i64 e ∧ nv = .int .i64 ((S.take e).count yk : Nat) ∧ Hid (Below W.heap.size W wr)) (fun _ ev _ => ls - (intOf ev).toNat)
      case atStart => exact ⟨0, Nat.zero_le _, rfl, rfl, HB⟩
      case round =>
        clear HB
        obtain ⟨e, he, rfl, rfl, HB⟩ := hrel
        have hcm := HCm.out e
        have v1 := (HB.out.cell (lt_cell HYk.out)).trans HYk.out
        by_cases hel : e < ls
        · have HE : Hid (e < ls) := hel
          have hei : (e : Int) < ls := by omega
          have h1 := HCs.out e hel
          have v0 := (HB.out.cell (lt_cell h1)).trans h1
          have HCe : Hid _ := HCt.out e hel
          generalize S.getD e 0 = ye at v0 HCe
          generalize (S.take e).count yk = c0 at hcm HCe ⊢
          clear h1
          go_upto_region 34 with (fail)
          refine wp_calm ?_
          refine wp_region_L [] (fun w' : World => w'.cell? ⟨gs, e, none⟩ = some (.int .i64 ye) ∧ w'.cell? ⟨gs, k, none⟩ = some (.int .i64 yk)) (by kernel_rfl) ?_
          obtain ⟨Wd, hWd⟩ : ∃ Wd, World.drew wr = Wd := ⟨_, rfl⟩
          have hbd : Below wr.heap.size wr Wd := by rw [← hWd]; exact bel_drewN (Below.refl _ _) 1
          rw [hWd]
          have hS : (fun w' : World => w'.cell? ⟨gs, e, none⟩ = some (.int .i64 ye) ∧ w'.cell? ⟨gs, k, none⟩ = some (.int .i64 yk)) Wd := ⟨(hbd.cell (lt_cell v0)).trans v0, (hbd.cell (lt_cell v1)).trans v1⟩
          refine wpAnyL_take (i := 0) 159 (v := .slice (some ⟨gs, 0, none⟩) ls sc) rfl rfl (by kernel_rfl) (by kernel_rfl) (by kernel_rfl) (by kernel_rfl) (by kernel_rfl) (by kernel_rfl) (fun _ _ _ h => h) hS (by rfl) (by intro w' hSw; obtain ⟨y0, y1⟩ := hSw; go_simp <;> with_reducible rfl) ?_
          simp only [Act.put, List.setIfInBounds_toArray, List.set_cons_zero, List.set_cons_succ]
          refine wpAnyL_take (i := 1) 160 (v := .int .i64 (e : Int)) rfl rfl (by kernel_rfl) (by kernel_rfl) (by kernel_rfl) (by kernel_rfl) (by kernel_rfl) (by kernel_rfl) (fun _ _ _ h => h) hS (by rfl) (by intro w' hSw; obtain ⟨y0, y1⟩ := hSw; go_simp <;> with_reducible rfl) ?_
          simp only [Act.put, List.setIfInBounds_toArray, List.set_cons_zero, List.set_cons_succ]
          refine wpAnyL_take (i := 2) 161 (v := .pointer (some ⟨gs, e, none⟩)) rfl rfl (by kernel_rfl) (by kernel_rfl) (by kernel_rfl) (by kernel_rfl) (by kernel_rfl) (by kernel_rfl) (fun _ _ _ h => h) hS (by rfl) (by intro w' hSw; obtain ⟨y0, y1⟩ := hSw; go_simp <;> with_reducible rfl) ?_
          simp only [Act.put, List.setIfInBounds_toArray, List.set_cons_zero, List.set_cons_succ]
          refine wpAnyL_take (i := 3) 162 (v := .int .i64 ye) rfl rfl (by kernel_rfl) (by kernel_rfl) (by kernel_rfl) (by kernel_rfl) (by kernel_rfl) (by kernel_rfl) (fun _ _ _ h => h) hS (by rfl) (by intro w' hSw; obtain ⟨y0, y1⟩ := hSw; go_simp <;> with_reducible rfl) ?_
          simp only [Act.put, List.setIfInBounds_toArray, List.set_cons_zero, List.set_cons_succ]
          refine wpAnyL_take (i := 4) 163 (v := .slice (some ⟨gs, 0, none⟩) ls sc) rfl rfl (by kernel_rfl) (by kernel_rfl) (by kernel_rfl) (by kernel_rfl) (by kernel_rfl) (by kernel_rfl) (fun _ _ _ h => h) hS (by rfl) (by intro w' hSw; obtain ⟨y0, y1⟩ := hSw; go_simp <;> with_reducible rfl) ?_
          simp only [Act.put, List.setIfInBounds_toArray, List.set_cons_zero, List.set_cons_succ]
          refine wpAnyL_take (i := 5) 164 (v := .int .i64 (k : Int)) rfl rfl (by kernel_rfl) (by kernel_rfl) (by kernel_rfl) (by kernel_rfl) (by kernel_rfl) (by kernel_rfl) (fun _ _ _ h => h) hS (by rfl) (by intro w' hSw; obtain ⟨y0, y1⟩ := hSw; go_simp <;> with_reducible rfl) ?_
          simp only [Act.put, List.setIfInBounds_toArray, List.set_cons_zero, List.set_cons_succ]
          refine wpAnyL_take (i := 6) 165 (v := .pointer (some ⟨gs, k, none⟩)) rfl rfl (by kernel_rfl) (by kernel_rfl) (by kernel_rfl) (by kernel_rfl) (by kernel_rfl) (by kernel_rfl) (fun _ _ _ h => h) hS (by rfl) (by intro w' hSw; obtain ⟨y0, y1⟩ := hSw; go_simp <;> with_reducible rfl) ?_
          simp only [Act.put, List.setIfInBounds_toArray, List.set_cons_zero, List.set_cons_succ]
          refine wpAnyL_take (i := 7) 166 (v := .int .i64 yk) rfl rfl (by kernel_rfl) (by kernel_rfl) (by kernel_rfl) (by kernel_rfl) (by kernel_rfl) (by kernel_rfl) (fun _ _ _ h => h) hS (by rfl) (by intro w' hSw; obtain ⟨y0, y1⟩ := hSw; go_simp <;> with_reducible rfl) ?_
          simp only [Act.put, List.setIfInBounds_toArray, List.set_cons_zero, List.set_cons_succ]
          refine wpAnyL_take (i := 8) 167 (v := .bool (ye == yk)) rfl rfl (by kernel_rfl) (by kernel_rfl) (by kernel_rfl) (by kernel_rfl) (by kernel_rfl) (by kernel_rfl) (fun _ _ _ h => h) hS (by rfl) (by intro w' hSw; obtain ⟨y0, y1⟩ := hSw; go_simp <;> with_reducible rfl) ?_
          simp only [Act.put, List.setIfInBounds_toArray, List.set_cons_zero, List.set_cons_succ]
          refine wpAnyL_done (by kernel_rfl) ?_ _
          clear hS hWd
          have HBd : Hid (Below W.heap.size W Wd) := HB.out.trans (hbd.mono HB.out.size)
          clear v0 v1 hbd HB
          by_cases ht : ye = yk
          · have ht2 : (ye == yk) = true := by simpa using ht
            have HC1 : Hid ((S.take (e + 1)).count yk = c0 + 1) := by have h := HCe.out; rw [if_pos ht] at h; exact h
            go_wp2
            go_roundw
            case rel => exact ⟨e + 1, HE.out, by go_num, by rw [HC1.out]; go_num, HBd⟩
            case measure => have := HE.out; simp [intOf]; omega
          · have ht2 : (ye == yk) = false := by simpa using ht
            have HC1 : Hid ((S.take (e + 1)).count yk = c0) := by have h := HCe.out; rw [if_neg ht, Nat.add_zero] at h; exact h
            go_wp2
            go_roundw
            case rel => exact ⟨e + 1, HE.out, by go_num, by rw [HC1.out], HBd⟩
            case measure => have := HE.out; simp [intOf]; omega
        · obtain rfl : ls = e := by omega
          have hck := HCk.out
          have HN : Hid ((S.take ls).count yk = S.count yk) := by show _ = _; rw [List.take_of_length_le (by rw [HLs.out]; exact Nat.le_refl _)]
          rw [HN.out]
          have HBf : Hid (bestF S (be, mo) yk = if mo < S.count yk ∨ (S.count yk = mo ∧ yk < be) then (yk, S.count yk) else (be, mo)) := rfl
          generalize S.count yk = nk at hck HBf ⊢
          clear HN hcm
          by_cases hc1 : mo < nk
          · have HG : Hid ((S.take (k + 1)).foldl (bestF S) (d0, 0) = (yk, nk)) := by show _ = _; rw [HFs.out, HBf.out, if_pos (.inl hc1)]
            have hc2 : (mo : Int) < nk := by omega
            go_upto_region 37 with (fail)
            refine wp_calm ?_
            refine wp_region_L [] (fun w' : World => w'.cell? ⟨gs, k, none⟩ = some (.int .i64 yk)) (by kernel_rfl) ?_
            obtain ⟨Wd, hWd⟩ : ∃ Wd, World.drew wr = Wd := ⟨_, rfl⟩
            have hbd : Below wr.heap.size wr Wd := by rw [← hWd]; exact bel_drewN (Below.refl _ _) 1
            rw [hWd]
            have hS : (fun w' : World => w'.cell? ⟨gs, k, none⟩ = some (.int .i64 yk)) Wd := (hbd.cell (lt_cell v1)).trans v1
            refine wpAnyL_take (i := 0) 186 (v := .int .i64 (nk : Int)) rfl rfl (by kernel_rfl) (by kernel_rfl) (by kernel_rfl) (by kernel_rfl) (by kernel_rfl) (by kernel_rfl) (fun _ _ _ h => h) hS (by rfl) (by intro w' hSw; have y0 := hSw; go_simp <;> with_reducible rfl) ?_
            simp only [Act.put, List.setIfInBounds_toArray, List.set_cons_zero, List.set_cons_succ]
            refine wpAnyL_take (i := 1) 187 (v := .slice (some ⟨gs, 0, none⟩) ls sc) rfl rfl (by kernel_rfl) (by kernel_rfl) (by kernel_rfl) (by kernel_rfl) (by kernel_rfl) (by kernel_rfl) (fun _ _ _ h => h) hS (by rfl) (by intro w' hSw; have y0 := hSw; go_simp <;> with_reducible rfl) ?_
            simp only [Act.put, List.setIfInBounds_toArray, List.set_cons_zero, List.set_cons_succ]
            refine wpAnyL_take (i := 2) 188 (v := .int .i64 (k : Int)) rfl rfl (by kernel_rfl) (by kernel_rfl) (by kernel_rfl) (by kernel_rfl) (by kernel_rfl) (by kernel_rfl) (fun _ _ _ h => h) hS (by rfl) (by intro w' hSw; have y0 := hSw; go_simp <;> with_reducible rfl) ?_
            simp only [Act.put, List.setIfInBounds_toArray, List.set_cons_zero, List.set_cons_succ]
            refine wpAnyL_take (i := 3) 189 (v := .pointer (some ⟨gs, k, none⟩)) rfl rfl (by kernel_rfl) (by kernel_rfl) (by kernel_rfl) (by kernel_rfl) (by kernel_rfl) (by kernel_rfl) (fun _ _ _ h => h) hS (by rfl) (by intro w' hSw; have y0 := hSw; go_simp <;> with_reducible rfl) ?_
            simp only [Act.put, List.setIfInBounds_toArray, List.set_cons_zero, List.set_cons_succ]
            refine wpAnyL_take (i := 4) 190 (v := .int .i64 yk) rfl rfl (by kernel_rfl) (by kernel_rfl) (by kernel_rfl) (by kernel_rfl) (by kernel_rfl) (by kernel_rfl) (fun _ _ _ h => h) hS (by rfl) (by intro w' hSw; have y0 := hSw; go_simp <;> with_reducible rfl) ?_
            simp only [Act.put, List.setIfInBounds_toArray, List.set_cons_zero, List.set_cons_succ]
            refine wpAnyL_take (i := 5) 18 (v := .int .i64 (nk : Int)) rfl rfl (by kernel_rfl) (by kernel_rfl) (by kernel_rfl) (by kernel_rfl) (by kernel_rfl) (by kernel_rfl) (fun _ _ _ h => h) hS (by rfl) (by intro w' hSw; have y0 := hSw; go_simp <;> with_reducible rfl) ?_
            simp only [Act.put, List.setIfInBounds_toArray, List.set_cons_zero, List.set_cons_succ]
            refine wpAnyL_take (i := 6) 17 (v := .int .i64 yk) rfl rfl (by kernel_rfl) (by kernel_rfl) (by kernel_rfl) (by kernel_rfl) (by kernel_rfl) (by kernel_rfl) (fun _ _ _ h => h) hS (by rfl) (by intro w' hSw; have y0 := hSw; go_simp <;> with_reducible rfl) ?_
            simp only [Act.put, List.setIfInBounds_toArray, List.set_cons_zero, List.set_cons_succ]
            refine wpAnyL_done (by kernel_rfl) ?_ _
            clear hS hWd
            have HBd : Hid (Below W.heap.size W Wd) := HB.out.trans (hbd.mono HB.out.size)
            clear v1 hbd HB
            go_wp2
            go_roundw
            case rel => exact ⟨k + 1, nk, yk, HK.out, by go_num, rfl, rfl, by omega, HG, HBd⟩
            case measure => have := HK.out; simp [intOf]; omega
          · by_cases hc3 : nk = mo ∧ yk < be
            · obtain ⟨hc3, hc4⟩ := hc3
              subst hc3
              have HG : Hid ((S.take (k + 1)).foldl (bestF S) (d0, 0) = (yk, nk)) := by show _ = _; rw [HFs.out, HBf.out, if_pos (.inr ⟨rfl, hc4⟩)]
              go_upto_region 37 with (fail)
              refine wp_calm ?_
              refine wp_region_L [] (fun w' : World => w'.cell? ⟨gs, k, none⟩ = some (.int .i64 yk)) (by kernel_rfl) ?_
              obtain ⟨Wd, hWd⟩ : ∃ Wd, World.drew wr = Wd := ⟨_, rfl⟩
              have hbd : Below wr.heap.size wr Wd := by rw [← hWd]; exact bel_drewN (Below.refl _ _) 1
              rw [hWd]
              have hS : (fun w' : World => w'.cell? ⟨gs, k, none⟩ = some (.int .i64 yk)) Wd := (hbd.cell (lt_cell v1)).trans v1
              refine wpAnyL_take (i := 0) 186 (v := .int .i64 (nk : Int)) rfl rfl (by kernel_rfl) (by kernel_rfl) (by kernel_rfl) (by kernel_rfl) (by kernel_rfl) (by kernel_rfl) (fun _ _ _ h => h) hS (by rfl) (by intro w' hSw; have y0 := hSw; go_simp <;> with_reducible rfl) ?_
              simp only [Act.put, List.setIfInBounds_toArray, List.set_cons_zero, List.set_cons_succ]
              refine wpAnyL_take (i := 1) 187 (v := .slice (some ⟨gs, 0, none⟩) ls sc) rfl rfl (by kernel_rfl) (by kernel_rfl) (by kernel_rfl) (by kernel_rfl) (by kernel_rfl) (by kernel_rfl) (fun _ _ _ h => h) hS (by rfl) (by intro w' hSw; have y0 := hSw; go_simp <;> with_reducible rfl) ?_
              simp only [Act.put, List.setIfInBounds_toArray, List.set_cons_zero, List.set_cons_succ]
              refine wpAnyL_take (i := 2) 188 (v := .int .i64 (k : Int)) rfl rfl (by kernel_rfl) (by kernel_rfl) (by kernel_rfl) (by kernel_rfl) (by kernel_rfl) (by kernel_rfl) (fun _ _ _ h => h) hS (by rfl) (by intro w' hSw; have y0 := hSw; go_simp <;> with_reducible rfl) ?_
              simp only [Act.put, List.setIfInBounds_toArray, List.set_cons_zero, List.set_cons_succ]
              refine wpAnyL_take (i := 3) 189 (v := .pointer (some ⟨gs, k, none⟩)) rfl rfl (by kernel_rfl) (by kernel_rfl) (by kernel_rfl) (by kernel_rfl) (by kernel_rfl) (by kernel_rfl) (fun _ _ _ h => h) hS (by rfl) (by intro w' hSw; have y0 := hSw; go_simp <;> with_reducible rfl) ?_
              simp only [Act.put, List.setIfInBounds_toArray, List.set_cons_zero, List.set_cons_succ]
              refine wpAnyL_take (i := 4) 190 (v := .int .i64 yk) rfl rfl (by kernel_rfl) (by kernel_rfl) (by kernel_rfl) (by kernel_rfl) (by kernel_rfl) (by kernel_rfl) (fun _ _ _ h => h) hS (by rfl) (by intro w' hSw; have y0 := hSw; go_simp <;> with_reducible rfl) ?_
              simp only [Act.put, List.setIfInBounds_toArray, List.set_cons_zero, List.set_cons_succ]
              refine wpAnyL_take (i := 5) 18 (v := .int .i64 (nk : Int)) rfl rfl (by kernel_rfl) (by kernel_rfl) (by kernel_rfl) (by kernel_rfl) (by kernel_rfl) (by kernel_rfl) (fun _ _ _ h => h) hS (by rfl) (by intro w' hSw; have y0 := hSw; go_simp <;> with_reducible rfl) ?_
              simp only [Act.put, List.setIfInBounds_toArray, List.set_cons_zero, List.set_cons_succ]
              refine wpAnyL_take (i := 6) 17 (v := .int .i64 yk) rfl rfl (by kernel_rfl) (by kernel_rfl) (by kernel_rfl) (by kernel_rfl) (by kernel_rfl) (by kernel_rfl) (fun _ _ _ h => h) hS (by rfl) (by intro w' hSw; have y0 := hSw; go_simp <;> with_reducible rfl) ?_
              simp only [Act.put, List.setIfInBounds_toArray, List.set_cons_zero, List.set_cons_succ]
              refine wpAnyL_done (by kernel_rfl) ?_ _
              clear hS hWd
              have HBd : Hid (Below W.heap.size W Wd) := HB.out.trans (hbd.mono HB.out.size)
              clear v1 hbd HB
              go_wp2
              go_roundw
              case rel => exact ⟨k + 1, nk, yk, HK.out, by go_num, rfl, rfl, by omega, HG, HBd⟩
              case measure => have := HK.out; simp [intOf]; omega
            · have HG : Hid ((S.take (k + 1)).foldl (bestF S) (d0, 0) = (be, mo)) := by
                show _ = _
                rw [HFs.out, HBf.out, if_neg (fun h => Or.elim h hc1 hc3)]
              have hc2 : (nk : Int) ≤ mo := by omega
              by_cases hc5 : nk = mo
              · have hc6 : be ≤ yk := by
                  apply Classical.byContradiction
                  intro h
                  exact hc3 ⟨hc5, by omega⟩
                subst hc5
                clear hc3 hc1
                go_wp2
                go_roundw
                case rel => exact ⟨k + 1, nk, be, HK.out, by go_num, rfl, rfl, hmo, HG, HB⟩
                case measure => have := HK.out; simp [intOf]; omega
              · have hc6 : (nk : Int) < mo := by omega
                clear hc3 hc1
                go_wp2
                go_roundw
                case rel =>
                  try rw [show S.length = ls from HLs.out]
                  refine ⟨_, _, _, _, _, _, _, _, _, _, _, _, _, _, _, _, _, _, _, _, _, _, _, _, _, _, _, _, _, _, _, _, _, _, _, _, _, _, _, _, _, _, _, _, _, _, _, _, _, ?_, rfl⟩
                  exact ⟨k + 1, mo, be, HK.out, by go_num, rfl, rfl, hmo, HG, HB⟩
                case measure => have := HK.out; simp [intOf]; omega
    · obtain rfl : k = ls := by omega
      have HBe : Hid (be = bestOf S d0) := by
        show _ = _
        have h := HF.out
        rw [List.take_of_length_le (by rw [HLs.out]; exact Nat.le_refl _)] at h
        unfold bestOf
        rw [h]
      rw [HBe.out]
      go_wp2
      exact HH.out _ _ _ _ _ _ _ _ _ _ _ _ _ _ _ _ _ _ _ _ _ _ _ _ _ _ _ _ _ _ _ _ _ _ _ _ _ _ _ _ _ _ _ _ _ _ _ _ _ HB.out
end Go.Proofs.Ytfidojdolbmjdaa
end
