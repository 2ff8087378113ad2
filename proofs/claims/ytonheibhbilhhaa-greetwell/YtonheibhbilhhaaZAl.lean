/- gadget: what Check answers. -/
import Derived.Test.YtonheibhbilhhaaZAk
namespace Go.Proofs.Ytonheibhbilhhaa.gadget
open Go.RowKit Go.PlainAid Go.Proofs.Ytonheibhbilhhaa.lane Go.Proofs.Ytonheibhbilhhaa.desc
open Go.Proofs.Ytonheibhbilhhaa.setup (inS inS_iff)
open Go.Proofs.Ytonheibhbilhhaa.utf (werr)
set_option linter.unusedVariables false
set_option linter.unusedSimpArgs false

theorem txE_at {T : List (List Int)} {k : Nat} {t : List Int} (h : T[k]? = some t) : txE (T.drop k) = if werr (strOfNums t) = 0 then txE (T.drop (k + 1)) else werr (strOfNums t) := by
  obtain ⟨hk, he⟩ := List.getElem?_eq_some_iff.1 h
  rw [List.drop_eq_getElem_cons hk, he, txE]
theorem chk_0 {d : Dv} {c : Cf} {T : List (List Int)} (h1 : ¬ wdC d = 0) : wdC d = chkS d c T := by unfold chkS; rw [if_pos h1]
theorem chk_1 {d : Dv} {c : Cf} {T : List (List Int)} (h1 : wdC d = 0) (h2 : ¬ d.cf = 1) : 4 = chkS d c T := by unfold chkS; rw [if_neg (fun q => q h1), if_pos h2]
theorem chk_2 {d : Dv} {c : Cf} {T : List (List Int)} (h1 : wdC d = 0) (h2 : d.cf = 1) (h3 : ¬ chkC c = 0) : chkC c = chkS d c T := by unfold chkS; rw [if_neg (fun q => q h1), if_neg (fun q => q h2), if_pos h3]
theorem chk_3 {d : Dv} {c : Cf} {T : List (List Int)} (h1 : wdC d = 0) (h2 : d.cf = 1) (h3 : chkC c = 0) (h4 : 8 < T.length) : 2 = chkS d c T := by unfold chkS; rw [if_neg (fun q => q h1), if_neg (fun q => q h2), if_neg (fun q => q h3), if_pos h4]
theorem chk_4 {d : Dv} {c : Cf} {T : List (List Int)} (h1 : wdC d = 0) (h2 : d.cf = 1) (h3 : chkC c = 0) (h4 : ¬ 8 < T.length) (h5 : ¬ txE T = 0) : txE T = chkS d c T := by unfold chkS; rw [if_neg (fun q => q h1), if_neg (fun q => q h2), if_neg (fun q => q h3), if_neg h4, if_pos h5]
theorem chk_5 {d : Dv} {c : Cf} {T : List (List Int)} (h1 : wdC d = 0) (h2 : d.cf = 1) (h3 : chkC c = 0) (h4 : ¬ 8 < T.length) (h5 : txE T = 0) : (if abv T.length (nms d c) = true then 12 else 0) = chkS d c T := by
  unfold chkS
  rw [if_neg (show ¬ (wdC d ≠ 0) from fun q => q h1), if_neg (show ¬ (d.cf ≠ 1) from fun q => q h2), if_neg (show ¬ (chkC c ≠ 0) from fun q => q h3), if_neg h4, if_neg (show ¬ (txE T ≠ 0) from fun q => q h5)]
set_option maxRecDepth 100000 in
set_option maxHeartbeats 8000000 in
theorem check_any (d : Dv) (c : Cf) (L : FL) (v : Value) (T : List (List Int)) (tv : Value) (w : World) (h : Shr w c L v T tv) :
    Calls Try.prog 66 #[shV d c v tv] w fun e w' => e = .returned (.int .i64 (chkS d c T)) ∧ Below w.heap.size w w' := by
  have HD : Hid (∀ u : World, Calls Try.prog 17 #[dvV d] u fun e w' => e = .returned (.tuple #[.string (wdT d), .int .i64 (wdC d)]) ∧ Below u.heap.size u w') := writeDevice_any d
  have HC : Hid (∀ u : World, Below w.heap.size w u → Calls Try.prog 18 #[cfV c v] u fun e w' => e = .returned (.tuple #[.string (wcT c), .int .i64 (chkC c)]) ∧ Below u.heap.size u w') := fun u hu => writeConfig_any c v L u (h.rc.below hu)
  have HT : Hid (∀ (t : List Int) (u : World), Calls Try.prog 83 #[.string (strOfNums t)] u fun e w' => e = .returned (.tuple #[.string (dtxt (strOfNums t)), .int .i64 (werr (strOfNums t))]) ∧ Below u.heap.size u w') := fun t u => writeText_any _ u
  have HH : Hid (∀ u : World, Below w.heap.size w u → Calls Try.prog 84 #[shV d c v tv] u fun e w' => e = .returned (.int .i64 (hiN d c)) ∧ Below u.heap.size u w') := fun u hu => highestText_any d c L v tv u (h.rc.below hu)
  have HX : Hid (∀ u : World, Below w.heap.size w u → Rts u tv T) := fun u hu => h.tx.below hu
  obtain ⟨w0, hw0, hS, hb0⟩ := ShC.named w d c v tv
  obtain ⟨fa, fn, fcap, rfl⟩ : ∃ a n c, v = .slice a n c := by obtain ⟨a, c, h, _⟩ := h.rc.fs.row; exact ⟨_, _, _, h⟩
  obtain ⟨a, n, cap, rfl⟩ : ∃ a n c, tv = .slice a n c := by obtain ⟨a, c, h, _⟩ := h.tx; exact ⟨_, _, _, h⟩
  obtain ⟨hn, hnc, hcm⟩ : n = T.length ∧ n ≤ cap ∧ cap ≤ maxLen := by obtain ⟨a', c', e, h1, h2, _⟩ := h.tx; injection e with e1 e2 e3; subst e2 e3; exact ⟨rfl, h1, h2⟩
  have HS : Hid (∀ u : World, Below w0.heap.size w0 u → ShC u w.heap.size d c (.slice fa fn fcap) (.slice a n cap)) := fun u hu => ShC.of (keep hS hu)
  have HB0 : Hid (Below w.heap.size w w0) := hb0
  unfold maxLen at hcm
  clear h hb0 hS
  have HN : Hid (n = T.length) := hn
  clear hn
  obtain ⟨R, hR⟩ : ∃ R, chkS d c T = R := ⟨_, rfl⟩
  have HR0 : Hid (chkS d c T = R) := hR
  rw [hR]
  clear hR
  obtain ⟨_, c0, c1, c2, c3, c4, c5, c6, c7, c8, c9, c10, c11, _, _, _, _, _, _⟩ := HS.out w0 (Below.refl _ _)
  by_cases h1 : ¬ wdC d = 0
  · have e1 : (wdC d != 0) = true := by simpa using h1
    have HE : Hid (wdC d = R) := (chk_0 h1).trans HR0.out
    generalize wdC d = z at *
    clear h1 HR0 HC HT HH HX HS
    go_enter Try.func66, Try.ntmps66
    go_wp2_with fail
    refine (HD.out _).mono ?_
    rintro e u ⟨rfl, hb⟩
    have HB : Hid (Below w.heap.size w u) := bsq HB0.out hb
    clear hb
    go_wp2
    go_ret
    exact ⟨ret_i HE.out, HB.out⟩
  have h1 : wdC d = 0 := by omega
  have H1 : Hid (wdC d = 0) := h1
  rw [h1] at HD
  go_enter Try.func66, Try.ntmps66
  go_wp2_with fail
  refine (HD.out _).mono ?_
  rintro e wa ⟨rfl, hb⟩
  have HBa : Hid (Below w0.heap.size w0 wa) := hb
  clear hb HD h1 c0 c1 c2 c3 c4 c5 c6 c7 c8 c9 c10 c11
  obtain ⟨_, _, _, _, _, _, _, _, _, _, _, _, c11, c12, c13, c14, c15, c16, _⟩ := HS.out wa HBa.out
  by_cases h2 : ¬ d.cf = 1
  · have e1 : (d.cf != 1) = true := by simpa using h2
    have HE : Hid (4 = R) := (chk_1 H1.out h2).trans HR0.out
    clear h2 HC HT HH HX HS HR0 c12 c13 c14 c15 c16
    go_wp2
    go_ret
    exact ⟨ret_i HE.out, bsq HB0.out HBa.out⟩
  have h2 : d.cf = 1 := by omega
  have H2 : Hid (d.cf = 1) := h2
  have e1 : (d.cf != 1) = false := by simpa using h2
  have HC1 : Hid (Calls Try.prog 18 #[cfV c (.slice fa fn fcap)] wa fun e w' => e = .returned (.tuple #[.string (wcT c), .int .i64 (chkC c)]) ∧ Below wa.heap.size wa w') := HC.out wa (bsq HB0.out HBa.out)
  clear h2 HC
  by_cases h3 : ¬ chkC c = 0
  · have e2 : (chkC c != 0) = true := by simpa using h3
    have HE : Hid (chkC c = R) := (chk_2 H1.out H2.out h3).trans HR0.out
    generalize chkC c = z at *
    clear h3 HR0 HT HH HX HS
    go_wp2_with fail
    refine HC1.out.mono ?_
    rintro e u ⟨rfl, hb⟩
    have HB : Hid (Below w0.heap.size w0 u) := bsq HBa.out hb
    clear hb
    go_wp2
    go_ret
    exact ⟨ret_i HE.out, bsq HB0.out HB.out⟩
  have h3 : chkC c = 0 := by omega
  have H3 : Hid (chkC c = 0) := h3
  rw [h3] at HC1
  go_wp2_with fail
  refine HC1.out.mono ?_
  rintro e wb ⟨rfl, hb⟩
  have HBb : Hid (Below w0.heap.size w0 wb) := bsq HBa.out hb
  clear hb HC1 h3 c11 c12 c13 c14 c15 c16 e1 HBa
  obtain ⟨_, _, _, _, _, _, _, _, _, _, _, _, _, _, _, _, _, _, c17⟩ := HS.out wb HBb.out
  by_cases h4 : 8 < n
  · have HE : Hid (2 = R) := (chk_3 H1.out H2.out H3.out (by have := HN.out; omega)).trans HR0.out
    clear HT HH HX HS HR0
    go_wp2
    go_ret
    exact ⟨ret_i HE.out, bsq HB0.out HBb.out⟩
  have H4 : Hid (¬ 8 < T.length) := by show ¬ _; have := HN.out; omega
  have HAT : Hid (∀ u : World, Below w0.heap.size w0 u → ∀ j p, T[j]? = some p → ∃ g off, a = some ⟨g, off, none⟩ ∧ u.cell? ⟨g, off + j, none⟩ = some (.string (strOfNums p))) := fun u hu => Rts.at' (HX.out u (bsq HB0.out hu))
  obtain ⟨tE, htE⟩ : ∃ x, txE T = x := ⟨_, rfl⟩
  have HE : Hid (txE (T.drop 0) = tE) := htE
  have HR4 : Hid (¬ tE = 0 → tE = R) := fun q => by rw [← htE] at q ⊢; exact (chk_4 H1.out H2.out H3.out H4.out q).trans HR0.out
  have HR5 : Hid (tE = 0 → (if (n : Int) < hiN d c then 12 else 0) = R) := fun q => by
    rw [← htE] at q
    have := (chk_5 H1.out H2.out H3.out H4.out q).trans HR0.out
    rw [← HN.out] at this
    rw [← this]
    by_cases z : (n : Int) < hiN d c
    · rw [if_pos z, if_pos ((hiN_lt d c n).1 z)]
    · rw [if_neg z, if_neg (fun e => z ((hiN_lt d c n).2 e))]
  clear htE HX HR0 H1 H2 H3 H4
  go_wp2
  clear c17
  go_loopw [40] (fun i wr => ∃ k : Nat, k ≤ n ∧ i = .int .i64 (k : Int) ∧ Below w0.heap.size w0 wr ∧ Hid (txE (T.drop k) = tE)) (fun i _ => n - (intOf i).toNat)
  case atStart => exact ⟨0, Nat.zero_le _, rfl, HBb.out, HE.out⟩
  case round =>
    obtain ⟨k, hk, rfl, hbr, HR⟩ := hrel
    by_cases hlt : k < n
    · have hk1 : k < T.length := by have := HN.out; omega
      obtain ⟨p, hp⟩ : ∃ p, T[k]? = some p := ⟨T[k], List.getElem?_eq_getElem hk1⟩
      obtain ⟨g, off, rfl, k0⟩ := HAT.out wr hbr k p hp
      have hR := HR.out
      rw [txE_at hp] at hR
      have HW : Hid (Calls Try.prog 83 #[.string (strOfNums p)] wr fun e w' => e = .returned (.tuple #[.string (dtxt (strOfNums p)), .int .i64 (werr (strOfNums p))]) ∧ Below wr.heap.size wr w') := HT.out p wr
      have HBr : Hid (Below w0.heap.size w0 wr) := hbr
      generalize strOfNums p = P at *
      by_cases h5 : werr P = 0
      · rw [if_pos h5] at hR
        rw [h5] at HW
        have HR2 : Hid (txE (T.drop (k + 1)) = tE) := hR
        clear HT HH HS HAT HR hR hp hbr h5 HBb HR4 HR5
        go_wp2_with fail
        refine HW.out.mono ?_
        rintro e u ⟨rfl, hb⟩
        have HBu : Hid (Below w0.heap.size w0 u) := bsq HBr.out hb
        clear hb HW
        go_wp2
        go_roundw
        case rel => exact ⟨k + 1, by omega, by go_num, HBu.out, HR2⟩
        case measure => simp [intOf]; omega
      · rw [if_neg h5] at hR
        have e5 : (werr P != 0) = true := by simpa using h5
        have HR2 : Hid (werr P = R) := hR.trans (HR4.out (by rw [← hR]; exact h5))
        generalize werr P = z at *
        clear HT HH HS HAT HR hR hp hbr h5 HBb HR4 HR5
        go_wp2_with fail
        refine HW.out.mono ?_
        rintro e u ⟨rfl, hb⟩
        have HBu : Hid (Below w0.heap.size w0 u) := bsq HBr.out hb
        clear hb HW
        go_wp2
        go_ret
        exact ⟨ret_i HR2.out, bsq HB0.out HBu.out⟩
    · have hR := HR.out
      rw [List.drop_eq_nil_of_le (by have := HN.out; omega), txE] at hR
      have HR6 : Hid ((if (n : Int) < hiN d c then 12 else 0) = R) := HR5.out hR.symm
      clear hR
      have HBr : Hid (Below w0.heap.size w0 wr) := hbr
      have HHr : Hid (∀ u : World, Below wr.heap.size wr u → Calls Try.prog 84 #[shV d c (.slice fa fn fcap) (.slice a n cap)] u fun e w' => e = .returned (.int .i64 (hiN d c)) ∧ Below u.heap.size u w') := fun u hu => HH.out u (bsq HB0.out (bsq hbr hu))
      have x0 : ∀ W : World, Below wr.heap.size wr W → ShC W w.heap.size d c (.slice fa fn fcap) (.slice a n cap) := fun W hW => HS.out W (bsq hbr hW)
      clear HT HH HS HAT HR hbr HBb HE HR4 HR5
      go_wp2_with fail
      refine wp_abs (fun a0 => a0.tmps.size = 59 ∧ (∀ h, a0.tmps[1]'h = .pointer (some ⟨w.heap.size, 0, none⟩))) ⟨rfl, fun _ => rfl⟩ ?_
      rintro a0 ⟨hsz, g1⟩ ha0
      refine wp_region_L (Cb wr) (by kernel_rfl) (by kernel_rfl) ((Below.refl _ _).drew) ?_
      refine lexb_plain (shV d c (.slice fa fn fcap) (.slice a n cap)) rfl (fun W hW => by simp [execOp, go_sem, hsz, g1, (x0 W hW).c0, (x0 W hW).c1, (x0 W hW).c2, (x0 W hW).c3, (x0 W hW).c4, (x0 W hW).c5, (x0 W hW).c6, (x0 W hW).c7, (x0 W hW).c8, (x0 W hW).c9, (x0 W hW).c10, (x0 W hW).c11, (x0 W hW).c12, (x0 W hW).c13, (x0 W hW).c14, (x0 W hW).c15, (x0 W hW).c16, (x0 W hW).c17]) ?_
      refine lexb_call (.int .i64 (hiN d c)) 84 #[shV d c (.slice fa fn fcap) (.slice a n cap)] rfl (fun W hW => by simp [execOp, go_sem, hsz, g1]) (fun W hW => HHr.out W hW) ?_
      refine lexb_plain (.pointer (some ⟨w.heap.size, 17, none⟩)) rfl (fun W hW => by simp [execOp, go_sem, hsz, g1]) ?_
      refine lexb_plain (.slice a n cap) rfl (fun W hW => by simp [execOp, go_sem, hsz, g1, (x0 W hW).c17]) ?_
      refine lexb_plain (.int .i64 (n : Int)) rfl (fun W hW => by simp [execOp, go_sem, hsz, g1]) ?_
      refine lexb_plain (.bool (decide ((n : Int) < hiN d c))) rfl (fun W hW => by simp [execOp, go_sem, hsz, g1]) ?_
      intro w' hw'
      have HBw : Hid (Below w0.heap.size w0 w') := bsq HBr.out hw'
      clear hw' x0 HHr HBr
      subst ha0
      clear hsz g1
      go_simp
      by_cases q : (n : Int) < hiN d c
      · have HR7 : Hid (12 = R) := by have h := HR6.out; rw [if_pos q] at h; exact h
        clear HR6
        go_wp2
        go_ret
        exact ⟨ret_i HR7.out, bsq HB0.out HBw.out⟩
      · have HR7 : Hid (0 = R) := by have h := HR6.out; rw [if_neg q] at h; exact h
        clear HR6
        go_wp2
        go_ret
        exact ⟨ret_i HR7.out, bsq HB0.out HBw.out⟩
end Go.Proofs.Ytonheibhbilhhaa.gadget
