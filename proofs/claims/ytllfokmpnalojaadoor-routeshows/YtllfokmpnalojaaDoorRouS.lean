/- route: texts in memory; what Show answers. -/
import Derived.Test.YtllfokmpnalojaaDoorRouB
import Derived.Test.YtllfokmpnalojaaDoorShelf
import Derived.Lib.Join
namespace Go.Proofs.YtllfokmpnalojaaDoor.route
open Go Go.RowKit
set_option linter.unusedVariables false
set_option linter.unusedSimpArgs false
set_option maxRecDepth 100000

theorem infoS : (Tryd.prog.info? 9).map (fun i => (i.zero, i.size, i.bytes)) = some (some (.string ⟨#[]⟩), 1, 16) := by kernel_rfl
def scells (l : List ByteArray) : List Value := l.map Value.string
theorem scells_length (l : List ByteArray) : (scells l).length = l.length := List.length_map ..
theorem scells_at {l : List ByteArray} {j : Nat} {x : ByteArray} (h : l[j]? = some x) : (scells l)[j]? = some (.string x) := by simp [scells, h]
theorem scells_one (l : List ByteArray) : ∀ u ∈ scells l, u.oneCell' = true := by
  intro u hu
  obtain ⟨p, _, rfl⟩ := List.mem_map.1 hu
  rfl
/-- a row of n texts of the call's own, in block B -/
def Sw (w : World) (B n : Nat) (l : List ByteArray) : Prop := w.ownsRow B 9 1 (.slice (some ⟨B, 0, none⟩) n n) n (scells l)
theorem Sw.len {w : World} {B n : Nat} {l : List ByteArray} (h : Sw w B n l) : l.length = n := by have := h.1; simpa [scells] using this
theorem Sw.free {w : World} {B n : Nat} {l : List ByteArray} (h : Sw w B n l) (k : Nat) : w.frozen? ⟨B, k, none⟩ = false := World.ownsRow.frozenAt h k
theorem Sw.cell {w : World} {B n : Nat} {l : List ByteArray} (h : Sw w B n l) (k : Nat) (hk : k < n) : ∃ x, w.cell? ⟨B, k, none⟩ = some (.string x) := by
  have hl := h.len
  refine ⟨l[k], ?_⟩
  rw [World.ownsRow.cellAt h k (by omega)]
  exact scells_at (List.getElem?_eq_getElem (by omega))
theorem Sw.set {w : World} {B n : Nat} {l : List ByteArray} (h : Sw w B n l) (k : Nat) (v : ByteArray) : Sw (w.setCell ⟨B, k, none⟩ (.string v)) B n (l.set k v) := by
  have := (World.ownsRow.stored h k (.string v)).1
  unfold Sw
  rw [show scells (l.set k v) = (scells l).set k (.string v) by simp [scells, List.map_set]]
  exact this
theorem Sw.made {w : World} {B n : Nat} (h : w.ownsRow B 9 1 (.slice (some ⟨B, 0, none⟩) n n) n (madeCells (Value.string ⟨#[]⟩).cells (n * 1)).toList) : Sw w B n (List.replicate n ⟨#[]⟩) := by
  have e : (madeCells (Value.string ⟨#[]⟩).cells (n * 1)).toList = scells (List.replicate n ⟨#[]⟩) := by
    rw [Nat.mul_one]
    have := toList_madeCells_one (Value.string ⟨#[]⟩) n
    unfold scells
    rw [List.map_replicate]
    exact this
  rw [e] at h
  exact h
theorem set_take {l : List ByteArray} {k : Nat} (h : k < l.length) (e : ByteArray) : ((l.take k) ++ List.replicate (l.length - k) e).set k l[k] = l.take (k + 1) ++ List.replicate (l.length - (k + 1)) e := by
  have hk : (l.take k).length = k := by rw [List.length_take, Nat.min_eq_left (by omega)]
  rw [List.set_append_right _ _ (by omega), hk, Nat.sub_self, List.take_succ_eq_append_getElem h, List.append_assoc]
  congr 1
  obtain ⟨m, hm⟩ : ∃ m, l.length - k = m + 1 := ⟨l.length - k - 1, by omega⟩
  rw [hm, show l.length - (k + 1) = m by omega, List.replicate_succ]
  rfl
theorem set_next {l : List ByteArray} {N k : Nat} {x e : ByteArray} (hN : l.length = N) (h : l[k]? = some x) : ((l.take k) ++ List.replicate (N - k) e).set k x = l.take (k + 1) ++ List.replicate (N - (k + 1)) e := by
  subst hN
  have hk := (List.getElem?_eq_some_iff.1 h).1
  have := set_take hk e
  rw [(List.getElem?_eq_some_iff.1 h).2] at this
  exact this
/-- a port's text, and a path's -/
def dgt (p : Int) : ByteArray := ⟨(Lib.decDigits p.toNat).toArray⟩
def txtL (P : List Int) : List UInt8 := Lib.join (P.map fun p => Lib.decDigits p.toNat) [46]
def txt (P : List Int) : ByteArray := ⟨(txtL P).toArray⟩
theorem itoa_any (p : Int) (w : World) (h1 : 1 ≤ p) (h2 : p ≤ 15) : Calls Tryd.prog 20 #[.int .i64 p] w fun e w' => e = .returned (.string (dgt p)) ∧ w = w' := by
  obtain ⟨i, rfl⟩ : ∃ i : Nat, p = (i : Int) := ⟨p.toNat, by omega⟩
  exact (Tryd.strconv_Itoa_small i (by omega) w).mono fun e w' ⟨he, hw⟩ => ⟨by rw [he]; simp [dgt], hw.symm⟩
theorem digs_len {p : Int} (h1 : 1 ≤ p) (h2 : p ≤ 15) : (Lib.decDigits p.toNat).length ≤ 2 := by
  have key : ∀ i : Fin 16, (Lib.decDigits i.val).length ≤ 2 := by decide +kernel
  exact key ⟨p.toNat, by omega⟩
theorem txtL_len : ∀ (P : List Int), (∀ p ∈ P, 1 ≤ p ∧ p ≤ 15) → (txtL P).length ≤ 3 * P.length
  | [], _ => by simp [txtL, Lib.join]
  | [p], h => by
    have := digs_len (h p (by simp)).1 (h p (by simp)).2
    simp [txtL, Lib.join, List.intercalate, List.intersperse]
    omega
  | p :: q :: P, h => by
    have h1 := digs_len (h p (by simp)).1 (h p (by simp)).2
    have h2 := txtL_len (q :: P) (fun r hr => h r (List.mem_cons_of_mem _ hr))
    have e : txtL (p :: q :: P) = Lib.decDigits p.toNat ++ [46] ++ txtL (q :: P) := by
      simp [txtL, Lib.join, List.intercalate, List.intersperse]
    rw [e]
    simp only [List.length_append, List.length_cons, List.length_nil] at h2 ⊢
    omega
/-- what Show answers -/
def shT (P : List Int) : ByteArray := if chk P = 0 then txt P else ⟨#[]⟩
set_option maxHeartbeats 2000000 in
theorem show_no (v : Value) (P : List Int) (w : World) (hv : Ris w v P) (hc : chk P ≠ 0) : Calls Tryd.prog 7 #[v] w fun e w' => e = .returned (.tuple #[.string ⟨#[]⟩, .int .i64 (chk P)]) ∧ Below w.heap.size w w' := by
  have HC : Hid (Calls Tryd.prog 19 #[v] w fun e w' => e = .returned (.int .i64 (chk P)) ∧ w = w') := check_any v P w hv
  obtain ⟨z, hz⟩ : ∃ z, chk P = z := ⟨_, rfl⟩
  rw [hz] at HC hc ⊢
  have hne : (z != 0) = true := by simpa using hc
  clear hv hz hc
  go_enter Tryd.func7, Tryd.ntmps7
  go_wp2_with fail
  refine (HC.out).mono ?_
  rintro e u ⟨rfl, rfl⟩
  clear HC
  go_wp2
  go_ret2
  exact ⟨rfl, Below.refl _ _⟩
set_option maxHeartbeats 4000000 in
theorem show_yes (v : Value) (P : List Int) (w : World) (hv : Ris w v P) (hc : chk P = 0) : Calls Tryd.prog 7 #[v] w fun e w' => e = .returned (.tuple #[.string (txt P), .int .i64 0]) ∧ Below w.heap.size w w' := by
  have HC : Hid (Calls Tryd.prog 19 #[v] w fun e w' => e = .returned (.int .i64 0) ∧ w = w') := by have := check_any v P w hv; rw [hc] at this; exact this
  obtain ⟨hl1, hl6, hP⟩ := chk_ok hc
  obtain ⟨a, c, rfl, hlc, hcm⟩ := hv.form
  have HR : Hid (Ris w (.slice a P.length c) P) := hv
  have HP : Hid (∀ p ∈ P, 1 ≤ p ∧ p ≤ 15) := hP
  obtain ⟨N, hN⟩ : ∃ N, P.length = N := ⟨_, rfl⟩
  have HN : Hid (P.length = N) := hN
  have HM : Hid ((P.map dgt).length = N) := by show (P.map dgt).length = N; rw [List.length_map]; exact hN
  rw [hN] at HC HR hlc hl1 hl6 ⊢
  unfold maxLen at hcm
  obtain ⟨i0, hi, hz0, hz1, hz2⟩ := info_parts' infoS
  obtain ⟨T, hT⟩ : ∃ T, txt P = T := ⟨_, rfl⟩
  have HT : Hid (txt P = T) := hT
  rw [hT]
  clear hv hN hP hc hT
  go_enter Tryd.func7, Tryd.ntmps7
  go_wp2_with fail
  refine (HC.out).mono ?_
  rintro e u ⟨rfl, rfl⟩
  clear HC
  go_wp2_with (at_make; (refine wpList_make_full _ rfl _ _ 40 rfl w.heap.size 9 i0 (.string ⟨#[]⟩) 1 Tryd.underlying40 hi hz0 hz1 _ _ _ _ N rfl rfl (by omega) (by omega) (by rw [hz2]; omega) (by unfold maxLen; omega) (Nat.le_refl _) ?_); intro w1 hown hgrow)
  go_loopw [6, 7, 18] (fun _ _ i wr => ∃ k : Nat, k ≤ N ∧ i = .int .i64 (k : Int) ∧ Hid (Sw wr w.heap.size N ((P.map dgt).take k ++ List.replicate (N - k) ⟨#[]⟩) ∧ Below w.heap.size w wr)) (fun _ _ i _ => N - (intOf i).toNat)
  case atStart => exact ⟨0, Nat.zero_le _, rfl, by simpa using Sw.made hown, (Below.refl _ _).grown hgrow (Nat.le_refl _) (fun k hk => by cases hk)⟩
  case round =>
    obtain ⟨k, hk, rfl, HS⟩ := hrel
    by_cases hlt : ¬ k < N
    · obtain rfl : k = N := by omega
      have hs : Sw wr w.heap.size k (P.map dgt) := by
        have := HS.out.1
        rw [Nat.sub_self, List.replicate_zero, List.append_nil, List.take_of_length_le (by rw [HM.out]; exact Nat.le_refl _)] at this
        exact this
      have hj : Calls Tryd.prog 21 #[.slice (some ⟨w.heap.size, 0, none⟩) (P.map dgt).length k, .string ⟨#[46]⟩] wr fun e w' => e = .returned (.string ⟨(Lib.join ((P.map dgt).map (·.data.toList)) [46]).toArray⟩) ∧ Below wr.heap.size wr w' := by
        refine Tryd.strings_Join w.heap.size 0 k (P.map dgt) ⟨#[46]⟩ wr (fun j x hx => ?_) (Nat.lt_of_lt_of_le (by have := hs.cell 0 (by omega); obtain ⟨y, hy⟩ := this; exact World.block_lt_of_cell? _ _ hy) (Nat.le_refl _)) (by rw [HM.out]; omega) (by rw [HM.out]; exact Nat.le_refl _) ?_
        · have hjl := (List.getElem?_eq_some_iff.1 hx).1
          rw [Nat.zero_add, World.ownsRow.cellAt hs j (by rw [HM.out] at hjl; omega)]
          exact scells_at hx
        · have e : (P.map dgt).map (·.data.toList) = P.map fun p => Lib.decDigits p.toNat := by simp [dgt]
          rw [e]
          have := txtL_len P HP.out
          unfold txtL at this
          rw [HN.out] at this
          exact Nat.le_trans this (by omega)
      have e : (⟨(Lib.join ((P.map dgt).map (·.data.toList)) [46]).toArray⟩ : ByteArray) = txt P := by
        have e : (P.map dgt).map (·.data.toList) = P.map fun p => Lib.decDigits p.toNat := by simp [dgt]
        rw [e]
        rfl
      rw [e, HM.out] at hj
      have HJ : Hid (Calls Tryd.prog 21 #[.slice (some ⟨w.heap.size, 0, none⟩) k k, .string ⟨#[46]⟩] wr fun e w' => e = .returned (.string (txt P)) ∧ Below wr.heap.size wr w') := hj
      have HB : Hid (Below w.heap.size w wr) := HS.out.2
      rw [HT.out] at HJ
      clear HS hown hgrow hs hj e HR HP HN HM
      go_wp2_with fail
      refine (HJ.out).mono ?_
      rintro e u ⟨rfl, hb⟩
      have H2 : Hid (Below w.heap.size w u) := bsq HB.out hb
      clear hb HJ
      go_wp2
      go_ret2
      exact ⟨rfl, H2.out⟩
    · have hlt : k < N := by omega
      have hkl : k < P.length := by rw [HN.out]; exact hlt
      obtain ⟨g, off, rfl, c0⟩ := HR.out.at k P[k] (List.getElem?_eq_getElem hkl)
      have hc0 : wr.cell? ⟨g, off + k, none⟩ = some (.int .i64 P[k]) := by
        obtain ⟨a2, c2, hv2, _, _, h4⟩ := HR.out
        obtain ⟨g2, off2, e2, hg2, _⟩ := h4 (by omega)
        have e3 : some (⟨g, off, none⟩ : Addr) = some ⟨g2, off2, none⟩ := by
          injection hv2 with q1 _ _
          exact q1.trans e2
        injection e3 with e3
        injection e3 with e3 _ _
        exact (HS.out.2.cell (p := ⟨g, off + k, none⟩) (by rw [e3]; exact hg2)).trans c0
      have hpb := HP.out P[k] (List.getElem_mem hkl)
      have HI : Hid (Calls Tryd.prog 20 #[.int .i64 P[k]] wr fun e w' => e = .returned (.string (dgt P[k])) ∧ wr = w') := itoa_any P[k] wr hpb.1 hpb.2
      obtain ⟨y, cy⟩ := HS.out.1.cell k hlt
      have cf := HS.out.1.free k
      have hx : (P.map dgt)[k]? = some (dgt P[k]) := by simp [hkl]
      have HS2 : Hid (Sw (wr.setCell ⟨w.heap.size, k, none⟩ (.string (dgt P[k]))) w.heap.size N ((P.map dgt).take (k + 1) ++ List.replicate (N - (k + 1)) ⟨#[]⟩) ∧ Below w.heap.size w (wr.setCell ⟨w.heap.size, k, none⟩ (.string (dgt P[k])))) := by
        have h1 := HS.out.1.set k (dgt P[k])
        rw [set_next HM.out hx] at h1
        exact ⟨h1, HS.out.2.setCell (Nat.le_refl _) _⟩
      clear hx
      generalize dgt P[k] = X at HI HS2
      generalize P[k] = x at HI hc0 hpb
      clear HS hown hgrow hkl c0 HP HN HM HR
      go_wp2_with fail
      refine (HI.out).mono ?_
      rintro e u ⟨rfl, rfl⟩
      clear HI
      go_wp2
      go_roundw
      case rel => exact ⟨k + 1, by omega, by go_num, HS2.out⟩
      case measure => simp [intOf]; omega
theorem show_any (v : Value) (P : List Int) (w : World) (hv : Ris w v P) : Calls Tryd.prog 7 #[v] w fun e w' => e = .returned (.tuple #[.string (shT P), .int .i64 (chk P)]) ∧ Below w.heap.size w w' := by
  unfold shT
  by_cases hc : chk P = 0
  · rw [if_pos hc, hc]
    exact show_yes v P w hv hc
  · rw [if_neg hc]
    exact show_no v P w hv hc
end Go.Proofs.YtllfokmpnalojaaDoor.route
