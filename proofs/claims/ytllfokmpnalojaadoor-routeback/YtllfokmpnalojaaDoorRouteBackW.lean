/- RouteBack: P16.2, P16.3: the walk. -/
import Derived.Test.YtllfokmpnalojaaDoorRouVr
import Derived.Test.YtllfokmpnalojaaDoorRouL
import Derived.Test.YtllfokmpnalojaaDoorRouO
namespace Go.Proofs.YtllfokmpnalojaaDoor.routeBack
open Go Go.RowKit Go.Proofs.YtllfokmpnalojaaDoor.route
set_option linter.unusedVariables false
set_option linter.unusedSimpArgs false
set_option maxRecDepth 100000

theorem up_num {P : List Int} (h : chk P = 0) : upC (num P) = 0 ∧ upL (num P) = P := by
  obtain ⟨h1, h6, hP⟩ := chk_ok h
  have e := upk_num hP h6 h1
  unfold upC upL
  rw [e, if_pos h, if_pos h]
  exact ⟨rfl, rfl⟩
theorem num_up {n : Int} (hm : n ≤ 9223372036854775807) (h : upC n = 0) : chk (upL n) = 0 ∧ paN (upL n) = n := by
  unfold upC at h
  by_cases q : chk (upk n) = 0
  · have e : upL n = upk n := by unfold upL; rw [if_pos q]
    have h0 : 0 < n := by
      rcases Int.lt_or_le 0 n with r | r
      · exact r
      · have : upk n = [] := by unfold upk; rw [if_neg (by omega)]
        rw [this] at q
        simp [chk] at q
    rw [e]
    refine ⟨q, ?_⟩
    unfold paN
    rw [if_pos q]
    exact num_upk h0 hm
  · rw [if_neg q] at h; omega
set_option maxHeartbeats 16000000 in
theorem walk (v : Value) (l : List Int) (n : Int) (s : ByteArray) (hw : (Lit.int .i64 n).wf = true) (hws : s.size ≤ maxLen) (hs : s.size ≤ 140737488351232) (w : World) (hp : Ris w v l) (hk : l.length * 8 ≤ reachBytes) (hL : laidMet Tryd.prog Rows.routeBackRow.laid w) :
    Calls Tryd.prog 4 #[v, .int .i64 n, .string s] w fun e w' => e = .returned (.bool true) ∧ Below w.heap.size w w' := by
  have hV : Vr w := vr_of hL (.tail _ (.tail _ (.tail _ (.tail _ (.tail _ (.head _)))))) (.tail _ (.tail _ (.tail _ (.tail _ (.head _)))))
  obtain ⟨hm0, hm⟩ := wf64 hw
  have HV : Hid (Vr w) := hV
  have HP : Hid (Ris w v l) := hp
  have H0 : Hid (Below w.heap.size w w) := Below.refl _ _
  clear hL hV hp hk hw hws
  go_enter Tryd.func4, Tryd.ntmps4
  go_wp2_with fail
  refine (pack_any _ l w HP.out).mono ?_
  rintro e u1 ⟨rfl, hb⟩
  have H1 : Hid (Below w.heap.size w u1) := bsq H0.out hb
  clear hb
  by_cases hc : chk l = 0
  · have e1 : paN l = num l := by unfold paN; rw [if_pos hc]
    have e2 := up_num hc
    have e3 : shT l = txt l := by unfold shT; rw [if_pos hc]
    have e4 := rd_txt hc
    have e5 := txt_size hc
    have hnb := num_bound (chk_ok hc).2.2 (chk_ok hc).2.1
    have hnm : num l ≤ 9223372036854775807 := by omega
    have E2 : Hid (upC (num l) = 0 ∧ upL (num l) = l) := e2
    have E3 : Hid (shT l = txt l ∧ chk l = 0) := ⟨e3, hc⟩
    have E4 : Hid (rdC (txt l) = 0 ∧ rdL (txt l) = l) := e4
    have E5 : Hid ((txt l).size ≤ 18) := e5
    rw [e1, hc]
    clear e1 e2 e3 e4 e5 hc hnb
    go_wp2_with fail
    refine (unpack_any (num l) u1 hnm).mono ?_
    rintro e u2 ⟨v2, rfl, hi, hb⟩
    have H2 : Hid (Below w.heap.size w u2) := bsq H1.out hb
    have HA2 : Hid (Ris u2 v2 l) := (by have := hi.ris; rw [E2.out.2] at this; exact this)
    clear hb hi
    rw [E2.out.1]
    go_wp2_with fail
    refine (show_any _ l u2 (HP.out.below H2.out)).mono ?_
    rintro e u3 ⟨rfl, hb⟩
    have H3 : Hid (Below w.heap.size w u3) := bsq H2.out hb
    have HA3 : Hid (Ris u3 v2 l) := HA2.out.below hb
    clear hb
    rw [E3.out.1, E3.out.2]
    go_wp2_with fail
    refine (read_any (txt l) u3 (Nat.le_trans E5.out (by omega)) (HV.out.below H3.out)).mono ?_
    rintro e u4 ⟨v4, rfl, hi, hb⟩
    have H4 : Hid (Below w.heap.size w u4) := bsq H3.out hb
    have HA4 : Hid (Ris u4 v2 l) := HA3.out.below hb
    have HB4 : Hid (Ris u4 v4 l) := (by have := hi.ris; rw [E4.out.2] at this; exact this)
    clear hb hi
    rw [E4.out.1]
    go_wp2_with fail
    refine (equalI_any _ _ l l u4 HA4.out (HP.out.below H4.out)).mono ?_
    rintro e u5 ⟨rfl, hb⟩
    have H5 : Hid (Below w.heap.size w u5) := bsq H4.out hb
    have HB5 : Hid (Ris u5 v4 l) := HB4.out.below hb
    clear hb
    rw [show decide (l = l) = true from decide_eq_true rfl]
    go_wp2_with fail
    refine (equalI_any _ _ l l u5 HB5.out (HP.out.below H5.out)).mono ?_
    rintro e u6 ⟨rfl, hb⟩
    have H6 : Hid (Below w.heap.size w u6) := bsq H5.out hb
    clear hb
    rw [show decide (l = l) = true from decide_eq_true rfl]
    clear HA2 HA3 HA4 HB4 HB5 E2 E3 E4 E5
    go_wp2_with fail
    refine (unpack_any n u6 hm).mono ?_
    rintro e u7 ⟨v7, rfl, hi, hb⟩
    have H7 : Hid (Below w.heap.size w u7) := bsq H6.out hb
    have HU7 : Hid (Ris u7 v7 (upL n)) := hi.ris
    clear hb hi
    by_cases hu : upC n = 0
    · rw [hu]
      have HN : Hid (chk (upL n) = 0 ∧ paN (upL n) = n) := num_up hm hu
      clear hu
      go_wp2_with fail
      refine (pack_any _ (upL n) u7 HU7.out).mono ?_
      rintro e u8 ⟨rfl, hb⟩
      have H8 : Hid (Below w.heap.size w u8) := bsq H7.out hb
      clear hb
      rw [HN.out.1, HN.out.2]
      have hnn : (n != n) = false := by simp
      clear HU7 HN
      go_wp2_with fail
      refine (read_any s u8 hs (HV.out.below H8.out)).mono ?_
      rintro e u9 ⟨v9, rfl, hi, hb⟩
      have H9 : Hid (Below w.heap.size w u9) := bsq H8.out hb
      have HR9 : Hid (Ris u9 v9 (rdL s)) := hi.ris
      clear hb hi
      by_cases hr : rdC s = 0
      · rw [hr]
        have hro := rd_ok hr
        have hsh : shT (rdL s) = s := by unfold shT; rw [if_pos hro.1]; exact hro.2
        have HS : Hid (shT (rdL s) = s ∧ chk (rdL s) = 0) := ⟨hsh, hro.1⟩
        clear hro hsh hr
        go_wp2_with fail
        refine (show_any _ (rdL s) u9 HR9.out).mono ?_
        rintro e u10 ⟨rfl, hb⟩
        have H10 : Hid (Below w.heap.size w u10) := bsq H9.out hb
        clear hb
        rw [HS.out.1, HS.out.2]
        go_wp2_with fail
        refine (lives_any u10).mono ?_
        rintro e u11 ⟨rfl, hb⟩
        have H11 : Hid (Below w.heap.size w u11) := bsq H10.out hb
        clear hb
        have hbq : (s.toList == s.toList) = true := by simp
        go_wp2
        go_ret
        exact ⟨rfl, H11.out⟩
      · have hrn := rd_no hr
        have hne : (rdC s != 0) = true := by simpa using hr
        have HR : Hid (Ris u9 v9 []) := by have := HR9.out; rw [hrn] at this; exact this
        obtain ⟨a, c, rfl, hlc, hcm⟩ := HR.out.form
        generalize rdC s = z at hne
        clear hr hrn HR9 HR
        go_wp2_with fail
        refine (lives_any u9).mono ?_
        rintro e u10 ⟨rfl, hb⟩
        have H10 : Hid (Below w.heap.size w u10) := bsq H9.out hb
        clear hb
        go_wp2
        go_ret
        exact ⟨rfl, H10.out⟩
    · have hne : (upC n == 0) = false := by simpa using hu
      generalize upC n = y at hne
      clear hu HU7
      go_wp2_with fail
      refine (read_any s u7 hs (HV.out.below H7.out)).mono ?_
      rintro e u8 ⟨v8, rfl, hi, hb⟩
      have H8 : Hid (Below w.heap.size w u8) := bsq H7.out hb
      have HR8 : Hid (Ris u8 v8 (rdL s)) := hi.ris
      clear hb hi
      by_cases hr : rdC s = 0
      · rw [hr]
        have hro := rd_ok hr
        have hsh : shT (rdL s) = s := by unfold shT; rw [if_pos hro.1]; exact hro.2
        have HS : Hid (shT (rdL s) = s ∧ chk (rdL s) = 0) := ⟨hsh, hro.1⟩
        clear hro hsh hr
        go_wp2_with fail
        refine (show_any _ (rdL s) u8 HR8.out).mono ?_
        rintro e u9 ⟨rfl, hb⟩
        have H9 : Hid (Below w.heap.size w u9) := bsq H8.out hb
        clear hb
        rw [HS.out.1, HS.out.2]
        go_wp2_with fail
        refine (lives_any u9).mono ?_
        rintro e u10 ⟨rfl, hb⟩
        have H10 : Hid (Below w.heap.size w u10) := bsq H9.out hb
        clear hb
        have hbq : (s.toList == s.toList) = true := by simp
        go_wp2
        go_ret
        exact ⟨rfl, H10.out⟩
      · have hrn := rd_no hr
        have hne : (rdC s != 0) = true := by simpa using hr
        have HR : Hid (Ris u8 v8 []) := by have := HR8.out; rw [hrn] at this; exact this
        obtain ⟨a, c, rfl, hlc, hcm⟩ := HR.out.form
        generalize rdC s = z at hne
        clear hr hrn HR8 HR
        go_wp2_with fail
        refine (lives_any u8).mono ?_
        rintro e u9 ⟨rfl, hb⟩
        have H9 : Hid (Below w.heap.size w u9) := bsq H8.out hb
        clear hb
        go_wp2
        go_ret
        exact ⟨rfl, H9.out⟩
  · have hne : (chk l == 0) = false := by simpa using hc
    generalize chk l = z0 at hne
    generalize paN l = y0
    clear hc
    go_wp2_with fail
    refine (unpack_any n u1 hm).mono ?_
    rintro e u2 ⟨v2, rfl, hi, hb⟩
    have H2 : Hid (Below w.heap.size w u2) := bsq H1.out hb
    have HU2 : Hid (Ris u2 v2 (upL n)) := hi.ris
    clear hb hi
    by_cases hu : upC n = 0
    · rw [hu]
      have HN : Hid (chk (upL n) = 0 ∧ paN (upL n) = n) := num_up hm hu
      clear hu
      go_wp2_with fail
      refine (pack_any _ (upL n) u2 HU2.out).mono ?_
      rintro e u3 ⟨rfl, hb⟩
      have H3 : Hid (Below w.heap.size w u3) := bsq H2.out hb
      clear hb
      rw [HN.out.1, HN.out.2]
      have hnn : (n != n) = false := by simp
      clear HU2 HN
      go_wp2_with fail
      refine (read_any s u3 hs (HV.out.below H3.out)).mono ?_
      rintro e u4 ⟨v4, rfl, hi, hb⟩
      have H4 : Hid (Below w.heap.size w u4) := bsq H3.out hb
      have HR4 : Hid (Ris u4 v4 (rdL s)) := hi.ris
      clear hb hi
      by_cases hr : rdC s = 0
      · rw [hr]
        have hro := rd_ok hr
        have hsh : shT (rdL s) = s := by unfold shT; rw [if_pos hro.1]; exact hro.2
        have HS : Hid (shT (rdL s) = s ∧ chk (rdL s) = 0) := ⟨hsh, hro.1⟩
        clear hro hsh hr
        go_wp2_with fail
        refine (show_any _ (rdL s) u4 HR4.out).mono ?_
        rintro e u5 ⟨rfl, hb⟩
        have H5 : Hid (Below w.heap.size w u5) := bsq H4.out hb
        clear hb
        rw [HS.out.1, HS.out.2]
        go_wp2_with fail
        refine (lives_any u5).mono ?_
        rintro e u6 ⟨rfl, hb⟩
        have H6 : Hid (Below w.heap.size w u6) := bsq H5.out hb
        clear hb
        have hbq : (s.toList == s.toList) = true := by simp
        go_wp2
        go_ret
        exact ⟨rfl, H6.out⟩
      · have hrn := rd_no hr
        have hne : (rdC s != 0) = true := by simpa using hr
        have HR : Hid (Ris u4 v4 []) := by have := HR4.out; rw [hrn] at this; exact this
        obtain ⟨a, c, rfl, hlc, hcm⟩ := HR.out.form
        generalize rdC s = z at hne
        clear hr hrn HR4 HR
        go_wp2_with fail
        refine (lives_any u4).mono ?_
        rintro e u5 ⟨rfl, hb⟩
        have H5 : Hid (Below w.heap.size w u5) := bsq H4.out hb
        clear hb
        go_wp2
        go_ret
        exact ⟨rfl, H5.out⟩
    · have hne : (upC n == 0) = false := by simpa using hu
      generalize upC n = y at hne
      clear hu HU2
      go_wp2_with fail
      refine (read_any s u2 hs (HV.out.below H2.out)).mono ?_
      rintro e u3 ⟨v3, rfl, hi, hb⟩
      have H3 : Hid (Below w.heap.size w u3) := bsq H2.out hb
      have HR3 : Hid (Ris u3 v3 (rdL s)) := hi.ris
      clear hb hi
      by_cases hr : rdC s = 0
      · rw [hr]
        have hro := rd_ok hr
        have hsh : shT (rdL s) = s := by unfold shT; rw [if_pos hro.1]; exact hro.2
        have HS : Hid (shT (rdL s) = s ∧ chk (rdL s) = 0) := ⟨hsh, hro.1⟩
        clear hro hsh hr
        go_wp2_with fail
        refine (show_any _ (rdL s) u3 HR3.out).mono ?_
        rintro e u4 ⟨rfl, hb⟩
        have H4 : Hid (Below w.heap.size w u4) := bsq H3.out hb
        clear hb
        rw [HS.out.1, HS.out.2]
        go_wp2_with fail
        refine (lives_any u4).mono ?_
        rintro e u5 ⟨rfl, hb⟩
        have H5 : Hid (Below w.heap.size w u5) := bsq H4.out hb
        clear hb
        have hbq : (s.toList == s.toList) = true := by simp
        go_wp2
        go_ret
        exact ⟨rfl, H5.out⟩
      · have hrn := rd_no hr
        have hne : (rdC s != 0) = true := by simpa using hr
        have HR : Hid (Ris u3 v3 []) := by have := HR3.out; rw [hrn] at this; exact this
        obtain ⟨a, c, rfl, hlc, hcm⟩ := HR.out.form
        generalize rdC s = z at hne
        clear hr hrn HR3 HR
        go_wp2_with fail
        refine (lives_any u3).mono ?_
        rintro e u4 ⟨rfl, hb⟩
        have H4 : Hid (Below w.heap.size w u4) := bsq H3.out hb
        clear hb
        go_wp2
        go_ret
        exact ⟨rfl, H4.out⟩
end Go.Proofs.YtllfokmpnalojaaDoor.routeBack
