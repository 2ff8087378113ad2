/- hub: what Changes answers. -/
import Derived.Test.YtdnmjeiljpdmcaaHubH
namespace Go.Proofs.Ytdnmjeiljpdmcaa.hub
open Go Go.RowKit
open Go.Proofs.Ytdnmjeiljpdmcaa.slots (cl cl_at cl_set cl_ext allF allF_step allF_end allF_iff anyF)
open Go.PlainAid
open Go.Proofs.Ytdnmjeiljpdmcaa.lane (Bys nums)
open Go.Proofs.Ytdnmjeiljpdmcaa.setup (wrd)
set_option linter.unusedVariables false
set_option linter.unusedSimpArgs false
set_option maxRecDepth 100000

/-- a row of n bytes of the call's own, in block B -/
def Rw (w : World) (B n : Nat) (l : List Int) : Prop := w.ownsRow B 5 1 (.slice (some ⟨B, 0, none⟩) n n) n (l.map (Value.int .u8))
theorem Rw.len {w : World} {B n : Nat} {l : List Int} (h : Rw w B n l) : l.length = n := by have := h.1; simpa using this
theorem Rw.inb {w : World} {B n : Nat} {l : List Int} (h : Rw w B n l) : B < w.heap.size := (World.ownsRow.lt h B rfl).2
theorem Rw.free {w : World} {B n : Nat} {l : List Int} (h : Rw w B n l) (k : Nat) : w.frozen? ⟨B, k, none⟩ = false := World.ownsRow.frozenAt h k
theorem Rw.cell {w : World} {B n : Nat} {l : List Int} (h : Rw w B n l) (k : Nat) (x : Int) (hk : l[k]? = some x) : w.cell? ⟨B, k, none⟩ = some (.int .u8 x) := by
  have hl := h.len
  have hlt := (List.getElem?_eq_some_iff.1 hk).1
  rw [World.ownsRow.cellAt h k (by omega)]
  simp [hk]
theorem Rw.set {w : World} {B n : Nat} {l : List Int} (h : Rw w B n l) (k : Nat) (v : Int) : Rw (w.setCell ⟨B, k, none⟩ (.int .u8 v)) B n (l.set k v) := by
  have := (World.ownsRow.stored h k (.int .u8 v)).1
  unfold Rw
  rw [List.map_set]
  exact this
theorem Rw.made {w : World} {B n : Nat} (h : w.ownsRow B 5 1 (.slice (some ⟨B, 0, none⟩) n n) n (madeCells (Value.int .u8 0).cells (n * 1)).toList) : Rw w B n (List.replicate n 0) := by
  have e : (madeCells (Value.int .u8 0).cells (n * 1)).toList = (List.replicate n (0 : Int)).map (Value.int .u8) := by
    rw [Nat.mul_one]
    have := toList_madeCells_one (Value.int .u8 0) n
    rw [List.map_replicate]
    exact this
  rw [e] at h
  exact h
theorem Rw.conv {w : World} {B n : Nat} {l : List Int} (h : Rw w B n l) :
    (convert 57 9 (.slice (some ⟨B, 0, none⟩) n n)).run Try.prog w = .ok (.string (strOfNums l)) w := by
  refine run_convert_bytes_arg w 57 5 Try.underlying57 Try.underlying5 B 0 n n l h.len ?_ 9 Try.underlying9
  intro i hi
  rw [Nat.zero_add]
  refine h.cell i _ ?_
  have hl := h.len
  rw [List.getD_eq_getElem?_getD, List.getElem?_eq_getElem (by omega)]
  rfl
theorem Rw.below {w u : World} {B n : Nat} {l : List Int} (h : Rw w B n l) (hb : Below w.heap.size w u) : Rw u B n l := setup.own_below h hb
theorem Rw.chg {u u' : World} {X B n : Nat} {l : List Int} (h : Rw u B n l) (hc : Chg X u u') (hX : X ≠ B) : Rw u' B n l := by
  have hb := hc.below 0 u (Nat.zero_le _) (Below.refl _ _)
  have hg : u.grownBy u' (some X) := ⟨hb.os, hb.tape, hb.output, Nat.le_of_eq hc.size.symm, fun k hk hne => hc.other k (fun e => hne (by rw [e]))⟩
  refine World.ownsRow.kept h hg (.inr fun e => ?_)
  simp [Value.ownBlock] at e
  exact hX e.symm
/-- boxes beside the row -/
theorem Mm.cell8 {w u : World} {L : List Bk} {B k : Nat} {v : Value} (h : Mm w u L) (hw : w.heap.size ≤ B) (hB : ∀ b ∈ L.map (·.1), b ≠ B) : Mm w (u.setCell ⟨B, k, none⟩ v) L :=
  ⟨fun x hx => (Below.heap_setCell _ _ _ _ (hB x.1 (List.mem_map.2 ⟨x, hx, rfl⟩))).trans (h.lies x hx), h.own, h.ap, h.below.setCell hw _⟩
/-- the bytes behind the ports below k; m1 + 1 of them -/
def byT (F : List Int) (m1 k : Nat) : List Int := [num F k % 256, num F k / 256].take (m1 + 1)
theorem pow_vals : ∀ r : Fin 8, ∀ x : Fin 256, x.val < 2 ^ r.val → bits .or .u8 (x.val : Int) (2 ^ r.val) = (x.val : Int) + 2 ^ r.val := by decide +kernel
theorem or_pow {x : Int} {r : Nat} (hr : r < 8) (h0 : 0 ≤ x) (h1 : x < 2 ^ r) : bits .or .u8 x (2 ^ r) = x + 2 ^ r := by
  have h2 : (2 : Int) ^ r ≤ 256 := by
    rcases (by omega : r = 0 ∨ r = 1 ∨ r = 2 ∨ r = 3 ∨ r = 4 ∨ r = 5 ∨ r = 6 ∨ r = 7) with rfl | rfl | rfl | rfl | rfl | rfl | rfl | rfl <;> decide
  obtain ⟨n, rfl⟩ : ∃ n : Nat, x = n := ⟨x.toNat, by omega⟩
  have h3 : n < 2 ^ r := by
    have e : ((2 ^ r : Nat) : Int) = 2 ^ r := by simp
    omega
  exact pow_vals ⟨r, hr⟩ ⟨n, by omega⟩ h3
theorem bit_off {F : List Int} (h : Ok F) {k : Nat} (hk : k < 16) (hc : cn F < (k : Int)) : bit F k = 0 := by
  have : isP F (k : Int) = false := by unfold isP; simp; omega
  unfold bit
  rw [if_pos (h.none hk this).2]
theorem num_off {F : List Int} (h : Ok F) (h8 : cn F < 8) : ∀ j, 8 + j ≤ 16 → num F (8 + j) = num F 8
  | 0, _ => rfl
  | j + 1, hj => by
    rw [show 8 + (j + 1) = 8 + j + 1 by omega, num_succ, num_off h h8 j (by omega), bit_off h (by omega) (by omega)]
    omega
theorem num_256 {F : List Int} (h : Ok F) (h8 : cn F < 8) (k : Nat) (hk : k ≤ 16) : 0 ≤ num F k ∧ num F k < 256 := by
  by_cases q : k ≤ 8
  · have h1 := num_range F k
    have : (2 : Int) ^ k ≤ 2 ^ 8 := by
      rcases (by omega : k = 0 ∨ k = 1 ∨ k = 2 ∨ k = 3 ∨ k = 4 ∨ k = 5 ∨ k = 6 ∨ k = 7 ∨ k = 8) with rfl | rfl | rfl | rfl | rfl | rfl | rfl | rfl | rfl <;> decide
    omega
  · have e := num_off h h8 (k - 8) (by omega)
    rw [show 8 + (k - 8) = k by omega] at e
    have := num_range F 8
    rw [e]
    omega
theorem byT_end {F : List Int} (h : Ok F) {m1 : Nat} (hm : cn F / 8 = (m1 : Int)) : byT F m1 16 = cgT F := by
  have h1 := h.lo
  have h2 := h.hi
  unfold byT cgT
  rw [if_neg (fun z => z h.chk)]
  by_cases h8 : cn F < 8
  · have : m1 = 0 := by omega
    have hr := num_256 h h8 16 (by omega)
    rw [if_pos h8, this]
    show [num F 16 % 256] = _
    rw [Int.emod_eq_of_lt hr.1 hr.2]
  · have : m1 = 1 := by omega
    rw [if_neg h8, this]; rfl
theorem byT_same {F : List Int} {m1 k : Nat} (h : chg F k = 0) : byT F m1 (k + 1) = byT F m1 k := by
  have : bit F k = 0 := by unfold bit; rw [if_pos h]
  unfold byT
  rw [num_succ, this, Int.zero_mul, Int.add_zero]
/-- a bit is put in: where, what was there, and what is there then -/
theorem byT_step {F : List Int} (h : Ok F) {m1 k : Nat} (hm : cn F / 8 = (m1 : Int)) (hk : k < 16) (hc : chg F k ≠ 0) :
    ∃ (j r : Nat) (x : Int), (k : Int) / 8 = (j : Int) ∧ (k : Int) % 8 = (r : Int) ∧ r < 8 ∧ j < m1 + 1 ∧ (byT F m1 k)[j]? = some x ∧ 0 ≤ x ∧ x + 2 ^ r < 256 ∧ bits .or .u8 x (2 ^ r) = x + 2 ^ r ∧ (byT F m1 k).set j (x + 2 ^ r) = byT F m1 (k + 1) := by
  have h1 := h.lo
  have h2 := h.hi
  have hb : bit F k = 1 := by unfold bit; rw [if_neg hc]
  have hp : (k : Int) ≤ cn F := by
    by_cases q : (k : Int) ≤ cn F
    · exact q
    · have : isP F (k : Int) = false := by unfold isP; simp; omega
      exact absurd (h.none hk this).2 hc
  have hr := num_range F k
  have hs : num F (k + 1) = num F k + 2 ^ k := by rw [num_succ, hb, Int.one_mul]
  by_cases q : k < 8
  · have hpw : (2 : Int) ^ k ≤ 128 := by
      rcases (by omega : k = 0 ∨ k = 1 ∨ k = 2 ∨ k = 3 ∨ k = 4 ∨ k = 5 ∨ k = 6 ∨ k = 7) with rfl | rfl | rfl | rfl | rfl | rfl | rfl | rfl <;> decide
    refine ⟨0, k, num F k, by omega, by omega, q, by omega, ?_, hr.1, by omega, or_pow q hr.1 hr.2, ?_⟩
    · unfold byT
      rw [List.getElem?_take, if_pos (by omega), Int.emod_eq_of_lt hr.1 (by omega)]; rfl
    · unfold byT
      rw [← List.take_set, hs]
      have e1 : (num F k + 2 ^ k) % 256 = num F k + 2 ^ k := Int.emod_eq_of_lt (by omega) (by omega)
      have e2 : (num F k + 2 ^ k) / 256 = num F k / 256 := by omega
      rw [e1, e2]; rfl
  · have hm1 : m1 = 1 := by omega
    subst hm1
    obtain ⟨r, rfl⟩ : ∃ r, k = r + 8 := ⟨k - 8, by omega⟩
    have hpe : (2 : Int) ^ (r + 8) = 2 ^ r * 256 := by rw [Int.pow_add]; rfl
    have hpw : 0 < (2 : Int) ^ r ∧ (2 : Int) ^ r ≤ 128 := by
      rcases (by omega : r = 0 ∨ r = 1 ∨ r = 2 ∨ r = 3 ∨ r = 4 ∨ r = 5 ∨ r = 6 ∨ r = 7) with rfl | rfl | rfl | rfl | rfl | rfl | rfl | rfl <;> decide
    rw [hpe] at hr hs
    refine ⟨1, r, num F (r + 8) / 256, by omega, by omega, by omega, by omega, rfl, by omega, by omega, or_pow (by omega) (by omega) (by omega), ?_⟩
    unfold byT
    rw [hs]
    have e1 : (num F (r + 8) + 2 ^ r * 256) % 256 = num F (r + 8) % 256 := by omega
    have e2 : (num F (r + 8) + 2 ^ r * 256) / 256 = num F (r + 8) / 256 + 2 ^ r := by omega
    rw [e1, e2]; rfl
theorem infoB' : (Try.prog.info? 5).map (fun i => (i.zero, i.size, i.bytes)) = some (some (.int .u8 0), 1, 1) := by kernel_rfl
set_option maxHeartbeats 4000000 in
theorem changes_any (F : List Int) (w : World) (hb : Hb F) : Calls Try.prog 17 #[ag F] w fun e w' => e = .returned (.tuple #[.string (strOfNums (cgT F)), .int .i64 (chk F)]) ∧ Below w.heap.size w w' := by
  obtain ⟨i0, hi, hz0, hz1, hz2⟩ := info_parts infoB'
  have HL : Hid (F.length = 33) := hb.len
  have H0 : Hid (F[0]? = some (cn F)) := cl_at (by rw [hb.len]; omega)
  have HC : Hid (cut F 0 33 = F) := cut_all hb.len
  have HE : Hid (0 + 33 ≤ F.length) := by show 0 + 33 ≤ _; rw [hb.len]; omega
  have HE1 : Hid (1 + 32 ≤ F.length) := by show 1 + 32 ≤ _; rw [hb.len]; omega
  have HK : Hid (∀ u, Calls Try.prog 13 #[ag F] u fun e w' => e = .returned (.int .i64 (chk F)) ∧ Below u.heap.size u w') := fun u => check_any F u hb
  have HX : Hid (∀ k : Nat, k < 16 → ∀ u, (Instr.index 24 (ag (cut F 1 32)) (.int .i64 (k : Int))).run Try.prog u = .ok (ag [sta F k, chg F k]) u) := fun k hk u => by rw [run_indexP _ k hk, cut_cut hb.len hk]
  have hM := Mm.nil w
  by_cases h0 : ¬ chk F = 0
  · have HV : Hid (strOfNums (cgT F) = ⟨#[]⟩) := by show _ = _; unfold cgT; rw [if_pos h0]; rfl
    rw [HV.out]
    have e0 : (chk F != 0) = true := by simpa using h0
    clear h0 HV hb HX
    generalize chk F = z at *
    go_enter Try.func17, Try.ntmps17
    repeat' (first | (go_big_may; first | (refine a_box rfl rfl rfl ?_; intro u zb hN; replace hM := hM.new hN; clear hN) | (refine a_load rfl rfl row_hub rfl hM.at0 HE.out HC.out ?_)) | go_values | go_skip | go_guarded | go_step | go_upon | (simp only [Int.not_lt, Int.not_le] at *; go_simp))
    refine (HK.out _).mono ?_
    rintro r u ⟨rfl, hv⟩
    replace hM := hM.call hv
    clear hv
    repeat' (first | go_values | go_skip | go_guarded | go_step | go_upon | (simp only [Int.not_lt, Int.not_le] at *; go_simp))
    go_ret2
    exact ⟨rfl, hM.below⟩
  have h0 : chk F = 0 := by omega
  have hok := chk_ok hb.len h0
  have HOK : Hid (Ok F) := hok
  obtain ⟨m1, hm⟩ : ∃ m1 : Nat, cn F / 8 = (m1 : Int) := ⟨(cn F / 8).toNat, by have := hok.lo; omega⟩
  have hm2 : m1 ≤ 1 := by have := hok.hi; omega
  have hc1 := hok.lo
  have hc2 := hok.hi
  have HM1 : Hid (cn F / 8 = (m1 : Int)) := hm
  rw [h0] at HK
  rw [h0]
  obtain ⟨T, hT⟩ : ∃ T, strOfNums (cgT F) = T := ⟨_, rfl⟩
  have HT : Hid (strOfNums (cgT F) = T) := hT
  rw [hT]
  clear h0 hT hb hok
  generalize hcf : cut F 1 32 = cf at *
  have HCF : Hid (cut F 1 32 = cf) := hcf
  clear hcf
  obtain ⟨c, hcc⟩ : ∃ c, cn F = c := ⟨_, rfl⟩
  rw [hcc] at H0 hm hc1 hc2
  clear hcc
  go_enter Try.func17, Try.ntmps17
  repeat' (first | (go_big_may; first | (refine a_box rfl rfl rfl ?_; intro u zb hN; replace hM := hM.new hN; clear hN) | (refine a_load rfl rfl row_hub rfl hM.at0 HE.out HC.out ?_)) | go_values | go_skip | go_guarded | go_step | go_upon | (simp only [Int.not_lt, Int.not_le] at *; go_simp))
  refine (HK.out _).mono ?_
  rintro r u ⟨rfl, hv⟩
  replace hM := hM.call hv
  clear hv
  have hsm : Hid (zb < u.heap.size) := bx_lt hM.at0
  go_wp2_with (first | (refine a_get rfl rfl rfl hM.at0 H0.out ?_) | (refine a_load rfl rfl row_ports rfl hM.at0 HE1.out HCF.out ?_) | (at_make; (refine wpList_make_full _ rfl _ _ 57 rfl u.heap.size 5 i0 (.int .u8 0) 1 Try.underlying57 hi hz0 hz1 _ _ _ _ (m1 + 1) rfl rfl (by omega) (by omega) (by rw [hz2]; omega) (by unfold maxLen; omega) (Nat.le_refl _) ?_); intro w1 hown hgrow; replace hM := hM.call ((Below.refl _ _).grown hgrow (Nat.le_refl _) (fun k hk => by cases hk)); have hR := Rw.made hown; clear hown hgrow))
  have hlt : zb < u.heap.size := hsm.out
  have hwB : w.heap.size ≤ u.heap.size := by
    have h1 := hM.own (zb, 26, F) (by simp)
    have h2 : w.heap.size ≤ zb := h1
    omega
  generalize u.heap.size = B at *
  have HNE : Hid (zb < B) := hlt
  have HWB : Hid (w.heap.size ≤ B) := hwB
  have hR0 : Rw w1 B (m1 + 1) (byT F m1 0) := by
    have e : byT F m1 0 = List.replicate (m1 + 1) 0 := by
      rcases (by omega : m1 = 0 ∨ m1 = 1) with rfl | rfl <;> rfl
    rw [e]; exact hR
  have HR0 : Hid (Rw w1 B (m1 + 1) (byT F m1 0)) := hR0
  clear hlt hwB hsm hR hR0 hz0 hz1 hz2 hi HCF H0 HE1 HC HE
  go_loopw [6, 7, 20] (fun _ _ i wr => ∃ k : Nat, k ≤ 16 ∧ i = .int .i64 (k : Int) ∧ Hid (Mm w wr [(zb, 26, F)] ∧ Rw wr B (m1 + 1) (byT F m1 k))) (fun _ _ i _ => 16 - (intOf i).toNat)
  case atStart => exact ⟨0, by omega, rfl, hM, HR0.out⟩
  case round =>
    clear hM HR0
    obtain ⟨k, hk, rfl, HA⟩ := hrel
    have hM := HA.out.1
    by_cases hlt : ¬ k < 16
    · have hk16 : k = 16 := by omega
      subst hk16
      have hR := HA.out.2
      rw [byT_end HOK.out HM1.out] at hR
      have hcv := hR.conv
      rw [HT.out] at hcv
      clear HA HX hR
      repeat' (first | go_values | go_skip | go_guarded | go_step | go_upon | (simp only [Int.not_lt, Int.not_le] at *; go_simp))
      go_ret2
      exact ⟨rfl, hM.below⟩
    have hlt : k < 16 := by omega
    have hix := HX.out k hlt
    have HRk : Hid (Rw wr B (m1 + 1) (byT F m1 k)) := HA.out.2
    by_cases hch : chg F k = 0
    · have HS : Hid (byT F m1 (k + 1) = byT F m1 k) := byT_same hch
      rw [hch] at hix
      clear HA HX hch
      generalize sta F k = s at *
      have HGC : Hid (([s, 0] : List Int)[1]? = some 0) := rfl
      repeat' (first | (go_big_may; first | (refine a_alloc rfl zer_port rfl ?_; intro u yb hN; have HR2 : Hid (Rw u B (m1 + 1) (byT F m1 k)) := HRk.out.below hN.below; have HY : Hid (yb ≠ B) := (fun e => absurd (HRk.out.inb) (by rw [← e, hN.at']; omega)); replace hM := hM.new hN; clear hN) | (refine a_fill rfl rfl row_port rfl rfl hM.at0 rfl rfl ?_; intro u hv hc; replace hM := hM.put0 hc hv; have HR3 : Hid (Rw u B (m1 + 1) (byT F m1 k)) := HR2.out.chg hc HY.out; clear hv hc) | (refine a_get rfl rfl rfl hM.at0 HGC.out ?_)) | go_values | go_skip | go_guarded | go_step | go_upon | (simp only [Int.not_lt, Int.not_le] at *; go_simp))
      replace hM := hM.tail
      go_roundw
      case rel => exact ⟨k + 1, by omega, by go_num, by rw [HS.out]; exact ⟨hM, HR3.out⟩⟩
      case measure => simp [intOf]; omega
    · have ech : (chg F k != 0) = true := by simpa using hch
      obtain ⟨j, r, x, hj, hr, hr8, hjm, hx, hx0, hx1, hor, hst⟩ := byT_step HOK.out HM1.out hlt hch
      clear HX hch
      obtain ⟨y, hy⟩ : ∃ y, x + 2 ^ r = y := ⟨_, rfl⟩
      have hp : (2 : Int) ^ r % 256 = 2 ^ r := by
        have h0 : 0 ≤ (2 : Int) ^ r := Int.le_of_lt (Int.pow_pos (by omega))
        exact Int.emod_eq_of_lt h0 (by omega)
      rw [hy] at hor hst
      have hor2 : bits .or .u8 x ((2 : Int) ^ r % 256) = y := by rw [hp]; exact hor
      clear hp hor
      have HST : Hid ((byT F m1 k).set j y = byT F m1 (k + 1)) := hst
      have HXX : Hid ((byT F m1 k)[j]? = some x) := hx
      clear HA hst hx hy
      generalize sta F k = s at *
      generalize chg F k = c at *
      have HGC : Hid (([s, c] : List Int)[1]? = some c) := rfl
      repeat' (first | (go_big_may; first | (refine a_alloc rfl zer_port rfl ?_; intro u yb hN; have HR2 : Hid (Rw u B (m1 + 1) (byT F m1 k)) := HRk.out.below hN.below; have HY : Hid (yb ≠ B) := (fun e => absurd (HRk.out.inb) (by rw [← e, hN.at']; omega)); replace hM := hM.new hN; clear hN) | (refine a_fill rfl rfl row_port rfl rfl hM.at0 rfl rfl ?_; intro u hv hc; replace hM := hM.put0 hc hv; have HR3 : Hid (Rw u B (m1 + 1) (byT F m1 k)) := HR2.out.chg hc HY.out; clear hv hc) | (refine a_get rfl rfl rfl hM.at0 HGC.out ?_)) | go_values | go_skip | go_guarded | go_step | go_upon | (simp only [Int.not_lt, Int.not_le] at *; go_simp))
      have hce := HR3.out.cell j x HXX.out
      have hfr := HR3.out.free j
      have HBn : Hid (∀ v, Below w.heap.size w v → Rw v B (m1 + 1) (byT F m1 k) → Mm w v [(yb, 23, [s, c]), (zb, 26, F)] → Mm w (v.setCell ⟨B, j, none⟩ (.int .u8 y)).drew [(zb, 26, F)] ∧ Rw (v.setCell ⟨B, j, none⟩ (.int .u8 y)).drew B (m1 + 1) (byT F m1 (k + 1))) := fun v _ hR hM => by
        have h1 : Mm w (v.setCell ⟨B, j, none⟩ (.int .u8 y)) [(yb, 23, [s, c]), (zb, 26, F)] := hM.cell8 HWB.out (fun b hb => by
          rcases List.mem_cons.1 hb with rfl | hb
          · exact HY.out
          · obtain rfl : b = zb := by simpa using hb
            have := HNE.out
            omega)
        have h2 := hR.set j y
        rw [HST.out] at h2
        exact ⟨h1.tail.drew, h2.below (Below.refl _ _).drew⟩
      go_region
      obtain ⟨hM2, hR4⟩ := HBn.out u hM.below HR3.out hM
      repeat' (first | go_values | go_skip | go_guarded | go_step | go_upon | (simp only [Int.not_lt, Int.not_le] at *; go_simp))
      go_roundw
      case rel => exact ⟨k + 1, by omega, by go_num, hM2, hR4⟩
      case measure => simp [intOf]; omega
end Go.Proofs.Ytdnmjeiljpdmcaa.hub
