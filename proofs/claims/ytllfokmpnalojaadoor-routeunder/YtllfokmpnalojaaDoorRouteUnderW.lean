/- RouteUnder: P16.3, P16.4: the walk. -/
import Derived.Test.YtllfokmpnalojaaDoorRouP
import Derived.Test.YtllfokmpnalojaaDoorRouL
import Derived.Test.YtllfokmpnalojaaDoorRouO
namespace Go.Proofs.YtllfokmpnalojaaDoor.routeUnder
open Go Go.RowKit Go.Proofs.YtllfokmpnalojaaDoor.route
set_option linter.unusedVariables false
set_option linter.unusedSimpArgs false
set_option maxRecDepth 100000

theorem hp_any (s p : ByteArray) (w : World) : Calls Tryd.prog 16 #[.string s, .string p] w fun e w' => e = .returned (.bool (Lib.hasPrefix s.data.toList p.data.toList)) ∧ w = w' :=
  (Tryd.strings_HasPrefix s p w).mono fun e w' ⟨h1, h2⟩ => ⟨h1, h2.symm⟩
theorem app_list (s : ByteArray) : (s ++ (⟨#[46]⟩ : ByteArray)).data.toList = s.data.toList ++ [46] := by
  simp
theorem app_size (s : ByteArray) : (s ++ (⟨#[46]⟩ : ByteArray)).size = s.size + 1 := by
  have := congrArg List.length (app_list s)
  simp only [List.length_append, Array.length_toList, List.length_cons, List.length_nil] at this
  exact this
theorem und_text {a b : List Int} (ha : chk a = 0) (hb : chk b = 0) : Lib.hasPrefix (txt a ++ (⟨#[46]⟩ : ByteArray)).data.toList (txt b ++ (⟨#[46]⟩ : ByteArray)).data.toList = und a b := by
  rw [app_list, app_list, txt_list, txt_list, ← dots_txt a (chk_ne ha), ← dots_txt b (chk_ne hb)]
  unfold Lib.hasPrefix
  rw [Bool.eq_iff_iff, List.isPrefixOf_iff_prefix, und_iff]
  exact dots_pre b a (chk_ok ha).2.2 (chk_ok hb).2.2
theorem beq_self (s : ByteArray) : (s.toList == s.toList) = true := by simp
set_option maxHeartbeats 8000000 in
theorem walk (va : Value) (a : List Int) (vb : Value) (b : List Int) (w : World) (ha : Ris w va a) (hka : a.length * 8 ≤ reachBytes) (hb : Ris w vb b) (hkb : b.length * 8 ≤ reachBytes) :
    Calls Tryd.prog 5 #[va, vb] w fun e w' => e = .returned (.bool true) ∧ Below w.heap.size w w' := by
  unfold reachBytes at hka hkb
  have HA : Hid (Ris w va a) := ha
  have HB : Hid (Ris w vb b) := hb
  have LA : Hid (a.length ≤ 17592186048000) := by show a.length ≤ _; omega
  clear ha hb hka hkb
  go_enter Tryd.func5, Tryd.ntmps5
  go_wp2_with fail
  refine (show_any _ a w HA.out).mono ?_
  rintro e u1 ⟨rfl, hb⟩
  have H1 : Hid (Below w.heap.size w u1) := hb
  clear hb
  go_wp2_with fail
  refine (show_any _ b u1 (HB.out.below H1.out)).mono ?_
  rintro e u2 ⟨rfl, hb⟩
  have H2 : Hid (Below w.heap.size w u2) := bsq H1.out hb
  clear hb
  go_wp2_with fail
  refine (lives_any u2).mono ?_
  rintro e u3 ⟨rfl, hb⟩
  have H3 : Hid (Below w.heap.size w u3) := bsq H2.out hb
  clear hb
  by_cases hca : chk a = 0
  · have es : shT a = txt a := by unfold shT; rw [if_pos hca]
    rw [es, hca]
    have hs18 := txt_size hca
    by_cases hcb : chk b = 0
    · have et : shT b = txt b := by unfold shT; rw [if_pos hcb]
      rw [et, hcb]
      have ht18 := txt_size hcb
      have HU := und_text hca hcb
      have hinj := txt_inj hca hcb
      have z1 := app_size (txt a)
      have z2 := app_size (txt b)
      have huu : und a b = true → und b a = true → txt a = txt b := fun h1 h2 => by rw [und_anti h1 h2]
      obtain ⟨S, hS⟩ : ∃ S, txt a = S := ⟨_, rfl⟩
      obtain ⟨T, hT⟩ : ∃ T, txt b = T := ⟨_, rfl⟩
      rw [hS] at HU hs18 z1 huu ⊢
      rw [hT] at HU ht18 z2 huu ⊢
      have HUU : Hid (und a b = true → und b a = true → S = T) := huu
      obtain ⟨u, hu⟩ : ∃ u, und a b = u := ⟨_, rfl⟩
      rw [hu] at HU
      have HU2 : Hid (Lib.hasPrefix (S ++ (⟨#[46]⟩ : ByteArray)).data.toList (T ++ (⟨#[46]⟩ : ByteArray)).data.toList = u) := HU
      have HD : Hid (decide (meet a b = b) = u) := by rw [← hu]; exact (und_meet_iff a b).symm
      have HV : Hid (und a b = u) := hu
      have huu2 : (u == u) = true := by simp
      obtain ⟨q, hq⟩ : ∃ q, und b a = q := ⟨_, rfl⟩
      have HQ : Hid (und b a = q) := hq
      clear es et hinj hS hT HU huu hu hq hca hcb
      go_wp2_with fail
      refine (under_any _ _ a b u3 (HA.out.below H3.out) (HB.out.below H3.out)).mono ?_
      rintro e u4 ⟨rfl, hb⟩
      have H4 : Hid (Below w.heap.size w u4) := bsq H3.out hb
      clear hb
      rw [HV.out]
      go_wp2_with fail
      refine (hp_any _ _ u4).mono ?_
      rintro e uu ⟨rfl, rfl⟩
      rw [HU2.out]
      go_wp2_with fail
      refine (meet_any _ _ a b u4 (HA.out.below H4.out) (HB.out.below H4.out) LA.out).mono ?_
      rintro e u5 ⟨v5, rfl, hi, hb⟩
      have H5 : Hid (Below w.heap.size w u5) := bsq H4.out hb
      have HM : Hid (Ris u5 v5 (meet a b)) := hi.ris
      clear hb hi
      go_wp2_with fail
      refine (equalI_any _ _ (meet a b) b u5 HM.out (HB.out.below H5.out)).mono ?_
      rintro e u6 ⟨rfl, hb⟩
      have H6 : Hid (Below w.heap.size w u6) := bsq H5.out hb
      clear hb HM
      rw [HD.out]
      cases u with
      | false =>
        go_wp2
        go_ret
        exact ⟨rfl, H6.out⟩
      | true =>
        go_wp2_with fail
        refine (under_any _ _ b a u6 (HB.out.below H6.out) (HA.out.below H6.out)).mono ?_
        rintro e u7 ⟨rfl, hb⟩
        have H7 : Hid (Below w.heap.size w u7) := bsq H6.out hb
        clear hb
        rw [HQ.out]
        cases q with
        | false =>
          go_wp2
          go_ret
          exact ⟨rfl, H7.out⟩
        | true =>
          have hST : S = T := HUU.out HV.out HQ.out
          have hbq : (S.toList == T.toList) = true := by rw [hST]; simp
          clear HUU HU2 hST
          go_wp2
          go_ret
          exact ⟨rfl, H7.out⟩
    · have hne : (chk b != 0) = true := by simpa using hcb
      generalize chk b = z at hne
      generalize shT b = T
      generalize txt a = S at hs18
      clear es hca hcb
      go_wp2_with fail
      refine (lives_any u3).mono ?_
      rintro e u4 ⟨rfl, hb⟩
      have H4 : Hid (Below w.heap.size w u4) := bsq H3.out hb
      clear hb
      go_wp2
      go_ret
      exact ⟨rfl, H4.out⟩
  · have hne : (chk a != 0) = true := by simpa using hca
    generalize chk a = z at hne
    generalize shT a = S
    generalize chk b = y
    generalize shT b = T
    clear hca
    go_wp2_with fail
    refine (lives_any u3).mono ?_
    rintro e u4 ⟨rfl, hb⟩
    have H4 : Hid (Below w.heap.size w u4) := bsq H3.out hb
    clear hb
    go_wp2
    go_ret
    exact ⟨rfl, H4.out⟩
end Go.Proofs.YtllfokmpnalojaaDoor.routeUnder
