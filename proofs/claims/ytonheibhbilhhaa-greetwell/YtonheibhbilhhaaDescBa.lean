/- desc: a right device's text is read as that device. -/
import Derived.Test.YtonheibhbilhhaaZBc
import Derived.Test.YtonheibhbilhhaaZBb
namespace Go.Proofs.Ytonheibhbilhhaa.desc
open Go.RowKit Go.PlainAid Go.Proofs.Ytonheibhbilhhaa.lane

theorem devL_length (d : Dv) : (devL d).length = 18 := rfl
theorem devL_byt {d : Dv} (h : devOk d = true) : Byt (devL d) := by
  obtain ⟨h0, ⟨h1, h2, h3, h4, h5, h6, h7⟩, ⟨k1, k2, k3, k4⟩, _⟩ := (devOk_iff d).1 h
  intro x hx
  simp only [devL, wrd, List.cons_append, List.nil_append, List.mem_cons, List.not_mem_nil, or_false] at hx
  omega
theorem devO_devL {d : Dv} (h : devOk d = true) : devO (strOfNums (devL d)) = d := by
  have hb := devL_byt h
  have hg : ∀ k, k < 18 → bt (strOfNums (devL d)) k = (devL d).getD k 0 := fun k hk => getD_bt _ hb k (by rw [devL_length]; exact hk)
  have hs : (strOfNums (devL d)).size = 18 := by rw [str_size, devL_length]
  have hw : ∀ k, k + 1 < 18 → wdOf ((strOfNums (devL d)).extract k (strOfNums (devL d)).size) = (devL d).getD k 0 + 256 * (devL d).getD (k + 1) 0 := fun k hk => by
    unfold wdOf
    rw [bt_extract _ k 0 (by omega), bt_extract _ k 1 (by omega), Nat.add_zero, hg k (by omega), hg (k + 1) hk]
  unfold devO
  rw [hw 2 (by omega), hw 8 (by omega), hw 10 (by omega), hw 12 (by omega), hg 4 (by omega), hg 5 (by omega), hg 6 (by omega), hg 7 (by omega), hg 14 (by omega), hg 15 (by omega), hg 16 (by omega), hg 17 (by omega)]
  obtain ⟨_, _, ⟨k1, k2, k3, k4⟩, _⟩ := (devOk_iff d).1 h
  obtain ⟨us, cl, su, pr, m0, ve, pd, re, ma, nm, se, cf⟩ := d
  simp only [devL, wrd, List.cons_append, List.nil_append, List.getD, List.getElem?_cons_succ, List.getElem?_cons_zero, Option.getD_some] at *
  rw [show us % 256 + 256 * (us / 256) = us by omega, show ve % 256 + 256 * (ve / 256) = ve by omega, show pd % 256 + 256 * (pd / 256) = pd by omega, show re % 256 + 256 * (re / 256) = re by omega]
theorem rd_devL {d : Dv} (h : devOk d = true) : rdD (strOfNums (devL d)) = d ∧ rdE (strOfNums (devL d)) = 0 := by
  have hs : (strOfNums (devL d)).size = 18 := by rw [str_size, devL_length]
  have hi : isDev (strOfNums (devL d)) = true := by
    unfold isDev
    rw [devO_devL h, h]
    simp
  have hn : ¬ (strOfNums (devL d)).size < 18 := by omega
  unfold rdD rdE
  rw [if_neg hn, if_neg hn, if_pos hi, if_pos hi, devO_devL h]
  exact ⟨rfl, rfl⟩
end Go.Proofs.Ytonheibhbilhhaa.desc
