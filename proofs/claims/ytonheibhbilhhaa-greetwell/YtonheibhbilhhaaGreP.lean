/- greet: the plain mathematics of a device that is met. -/
import Derived.Test.YtonheibhbilhhaaGreN
import Derived.Test.YtonheibhbilhhaaGreK
import Derived.Test.YtonheibhbilhhaaZAp
import Derived.Test.YtonheibhbilhhaaDescBa
import Derived.Test.YtonheibhbilhhaaDescNamesW
namespace Go.Proofs.Ytonheibhbilhhaa.greet
open Go Go.RowKit Go.PlainAid Go.Proofs.Ytonheibhbilhhaa.lane Go.Proofs.Ytonheibhbilhhaa.desc Go.Proofs.Ytonheibhbilhhaa.gadget
open Go.Proofs.Ytonheibhbilhhaa.setup (inS inS_iff wrT wrC good txt)
set_option linter.unusedVariables false
set_option linter.unusedSimpArgs false

section
variable {d : Dv} {c : Cf} {T : List (List Int)}
theorem nx_is {g : Gr} (h : nxE g = 0) : nxT g = wrT (askK g) (askV g) 0 (askL g) := by
  obtain ⟨h1, h8⟩ := nx_ok.1 h
  unfold nxT
  rw [if_neg (by rw [h1]; decide), if_neg h8]
theorem ctl_nx {g : Gr} {s a x : Int} (hS : chkS d c T = 0) (h : nxE g = 0) (hr : gR s a x = true) : ctl d c T s a x (nxT g) = act d c T s a x (askK g) (askV g) 0 (askL g) := by
  obtain ⟨h1, h8⟩ := nx_ok.1 h
  rw [nx_is h, ctl_asked (ask_good h1 h8), if_neg (fun q => q hS), if_neg (by rw [hr]; decide)]
theorem wdT_ok (hS : chkS d c T = 0) : devOk d = true ∧ wdT d = strOfNums (devL d) := by
  have h := (chkS_ok hS).1
  unfold wdC at h
  by_cases q : devOk d = true
  · exact ⟨q, by unfold wdT; rw [if_pos q]⟩
  · rw [if_neg q] at h; cases h
theorem wcT_ok (hS : chkS d c T = 0) : wcT c = strOfNums (confL c) := by unfold wcT; rw [if_pos (chkS_ok hS).2.2.1]
theorem nums_cut (t : ByteArray) (l : Int) : nums (cutT t l) = (nums t).take (min t.size l.toNat) := by
  unfold cutT nums
  simp [ByteArray.data_extract, List.map_take]
theorem cutT_size (t : ByteArray) (l : Int) : (cutT t l).size = min t.size l.toNat := by
  unfold cutT
  rw [ByteArray.size_extract]; omega
theorem cutT_all (t : ByteArray) {l : Int} (h : (t.size : Int) ≤ l) : cutT t l = t := by
  unfold cutT
  rw [show min t.size l.toNat = t.size by omega, ByteArray.extract_zero_size]
theorem cut_bt (l : List Int) (hb : Byt l) {n : Int} {k : Nat} (hk : k < n.toNat) (hl : n.toNat ≤ l.length) : bt (cutT (strOfNums l) n) k = l.getD k 0 := by
  have hs := str_size l
  rw [bt_nums _ k (by rw [cutT_size]; omega), nums_cut, nums_str l hb, hs, show min l.length n.toNat = n.toNat by omega]
  simp only [List.getD_eq_getElem?_getD, List.getElem?_take, if_pos hk]
theorem devL_is : devL d = [18, 1, d.us % 256, d.us / 256, d.cl, d.su, d.pr, d.m0, d.ve % 256, d.ve / 256, d.pd % 256, d.pd / 256, d.re % 256, d.re / 256, d.ma, d.nm, d.se, d.cf] := rfl
theorem head_d (hS : chkS d c T = 0) : hdD (cutT (wdT d) 8) = true ∧ bt (cutT (wdT d) 8) 7 = d.m0 := by
  obtain ⟨h1, h2⟩ := wdT_ok hS
  have hb := devL_byt h1
  have hl := devL_length d
  have hm : m0B d.m0 = true := by
    have := ((devOk_iff d).1 h1).1
    simpa [m0B] using this
  rw [h2]
  have e0 : bt (cutT (strOfNums (devL d)) 8) 0 = 18 := cut_bt _ hb (by decide) (by rw [hl]; decide)
  have e1 : bt (cutT (strOfNums (devL d)) 8) 1 = 1 := cut_bt _ hb (by decide) (by rw [hl]; decide)
  have e7 : bt (cutT (strOfNums (devL d)) 8) 7 = d.m0 := cut_bt _ hb (by decide) (by rw [hl]; decide)
  refine ⟨?_, e7⟩
  unfold hdD
  rw [e0, e1, e7, hm, cutT_size, str_size, hl]
  decide
theorem whole_d (hS : chkS d c T = 0) : okD (cutT (wdT d) 18) d.m0 = true ∧ rdD (cutT (wdT d) 18) = d := by
  obtain ⟨h1, h2⟩ := wdT_ok hS
  obtain ⟨k1, k2⟩ := rd_devL h1
  rw [cutT_all _ (by rw [h2, str_size, devL_length]; decide), h2]
  refine ⟨?_, k1⟩
  unfold okD
  rw [k1, k2, (chkS_ok hS).2.1]
  simp
theorem confL_len (c : Cf) : (confL c).length = 9 + (facesL 0 c.fs).length := confL_length c
theorem head_c (hS : chkS d c T = 0) (hbb : ∀ f ∈ c.fs, BB f.ex) : hdC (cutT (wcT c) 9) = true ∧ w2 (cutT (wcT c) 9) = ((confL c).length : Int) ∧ (confL c).length ≤ 413 := by
  have hok := chkC_ok (chkS_ok hS).2.2.1
  have hb := byt_confL hok hbb
  have hl := confL_len c
  have hle := confL_le hok
  rw [wcT_ok hS]
  have hn : (9 : Int).toNat ≤ (confL c).length := by rw [hl]; exact Nat.le_add_right 9 _
  have e0 : bt (cutT (strOfNums (confL c)) 9) 0 = 9 := cut_bt _ hb (by decide) hn
  have e1 : bt (cutT (strOfNums (confL c)) 9) 1 = 2 := cut_bt _ hb (by decide) hn
  have e2 : bt (cutT (strOfNums (confL c)) 9) 2 = (9 + ((facesL 0 c.fs).length : Int)) % 256 := cut_bt _ hb (by decide) hn
  have e3 : bt (cutT (strOfNums (confL c)) 9) 3 = (9 + ((facesL 0 c.fs).length : Int)) / 256 := cut_bt _ hb (by decide) hn
  have ew : w2 (cutT (strOfNums (confL c)) 9) = ((confL c).length : Int) := by unfold w2; rw [e2, e3]; omega
  refine ⟨?_, ew, hle⟩
  unfold hdC
  rw [e0, e1, ew]
  have hsz : (cutT (strOfNums (confL c)) 9).size = 9 := by
    have h9 : (9 : Int).toNat = 9 := rfl
    rw [cutT_size, str_size, h9]; omega
  rw [hsz]
  have : inS 9 512 ((confL c).length : Int) = true := inS_iff.2 (by omega)
  rw [this]
  rfl
theorem whole_c (hS : chkS d c T = 0) (hbb : ∀ f ∈ c.fs, BB f.ex) : rcO (cutT (wcT c) ((confL c).length : Int)) = some c ∧ (cutT (wcT c) ((confL c).length : Int)).size = (confL c).length := by
  have hz := (chkS_ok hS).2.2.1
  have hok := chkC_ok hz
  have hle := confL_le hok
  have hns := nums_str _ (byt_confL hok hbb)
  rw [wcT_ok hS, cutT_all _ (by rw [str_size]; exact Int.le_refl _), str_size]
  refine ⟨rcO_some ?_ ⟨hz, hns.symm⟩, rfl⟩
  unfold splC
  rw [hns, if_neg (by omega), split_confL hok]
theorem se_in (hS : chkS d c T = 0) : 0 ≤ d.se ∧ d.se ≤ (T.length : Int) := by
  refine ⟨(dev_se (wdT_ok hS).1).1, ?_⟩
  have ha : abv T.length (nms d c) = false := by
    cases q : abv T.length (nms d c) with
    | false => rfl
    | true =>
      exfalso
      obtain ⟨a1, a2, a3, a4, a5⟩ := chkS_ok hS
      unfold chkS at hS
      rw [if_neg (fun z => z a1), if_neg (fun z => z a2), if_neg (fun z => z a3), if_neg (by omega), if_neg (fun z => z a5), if_pos q] at hS
      omega
  unfold abv at ha
  rw [List.any_eq_false] at ha
  have := ha d.se (by simp [nms])
  simpa using this
/-- the text of a serial number -/
def seT (d : Dv) (T : List (List Int)) : ByteArray := strOfNums (T.getD (d.se - 1).toNat [])
theorem text_d (hS : chkS d c T = 0) (h : d.se ≠ 0) : desO d c T (768 + d.se) = some (dtxt (seT d T)) ∧ rdC (cutT (dtxt (seT d T)) 255) = 0 ∧ rdT (cutT (dtxt (seT d T)) 255) = utf.clean (seT d T) := by
  obtain ⟨h0, h1⟩ := se_in hS
  have hk : (d.se - 1).toNat < T.length := by omega
  have ht : T[(d.se - 1).toNat]? = some (T.getD (d.se - 1).toNat []) := by rw [List.getD_eq_getElem?_getD, List.getElem?_eq_getElem hk]; rfl
  have hw := txE_all (chkS_ok hS).2.2.2.2 _ (List.mem_of_getElem? ht)
  obtain ⟨b1, b2, b3, b4⟩ := descNames.back hw
  have hd := des_text d c T _ _ ht
  rw [show (769 : Int) + (((d.se - 1).toNat : Nat) : Int) = 768 + d.se by omega] at hd
  unfold seT
  rw [cutT_all _ (by omega)]
  exact ⟨hd, b2, b1⟩
theorem desA_some (s a x l : Int) (t : ByteArray) : desA s a x l (some t) = ⟨s, a, x, cutT t l, 0⟩ := rfl
end
/-- what a device that is met so far can be: not yet told, told, configured -/
def Dst (a st s x h : Int) : Prop := h = 0 ∧ ((s = 0 ∧ x = 0 ∧ st ≤ 2) ∨ (s = 1 ∧ x = a ∧ 2 ≤ st ∧ st ≤ 7) ∨ (s = 2 ∧ x = a ∧ 7 ≤ st))
theorem Dst.right {a st s x h : Int} (hd : Dst a st s x h) (h1 : 1 ≤ a ∧ a ≤ 127) : gR s x h = true := by
  rw [gR_iff]
  unfold Dst at hd
  omega
/-- the step behind p good answers -/
def stg (d : Dv) (p : Nat) : Int := if p < 5 then 1 + p else if d.se = 0 then (if p = 5 then 7 else 8) else (if p = 5 then 6 else if p = 6 then 7 else 8)
def asksN (d : Dv) : Nat := if d.se = 0 then 6 else 7
theorem stg_done (d : Dv) (p : Nat) : stg d p = 8 ↔ asksN d ≤ p := by
  unfold stg asksN
  by_cases h : d.se = 0
  · simp only [if_pos h]; split
    · omega
    · split <;> omega
  · simp only [if_neg h]; split
    · omega
    · split
      · omega
      · split <;> omega
theorem stg_le (d : Dv) (p : Nat) : 1 ≤ stg d p ∧ stg d p ≤ 8 := by
  unfold stg
  split
  · omega
  split
  · split <;> omega
  split
  · omega
  split <;> omega
theorem stg_next (d : Dv) (p : Nat) (h : stg d p < 8) : stg d (p + 1) = if stg d p = 5 ∧ d.se = 0 then 7 else stg d p + 1 := by
  by_cases h0 : d.se = 0
  · have hp : p < 6 := by
      have := (stg_done d p).2
      unfold asksN at this
      rw [if_pos h0] at this
      omega
    have : p = 0 ∨ p = 1 ∨ p = 2 ∨ p = 3 ∨ p = 4 ∨ p = 5 := by omega
    rcases this with rfl | rfl | rfl | rfl | rfl | rfl <;> simp [stg, h0]
  · have hp : p < 7 := by
      have := (stg_done d p).2
      unfold asksN at this
      rw [if_neg h0] at this
      omega
    have : p = 0 ∨ p = 1 ∨ p = 2 ∨ p = 3 ∨ p = 4 ∨ p = 5 ∨ p = 6 := by omega
    rcases this with rfl | rfl | rfl | rfl | rfl | rfl | rfl <;> simp [stg, h0]
/-- at step 6 there is a serial number -/
theorem stg_six (d : Dv) (p : Nat) (h : stg d p = 6) : d.se ≠ 0 := by
  intro h0
  unfold stg at h
  simp only [if_pos h0] at h
  split at h
  · omega
  · split at h <;> omega
/-- the serial number that is known in the end -/
def srV (d : Dv) (T : List (List Int)) : ByteArray := if d.se = 0 then ⟨#[]⟩ else utf.clean (seT d T)
/-- a device that is met well so far: p good answers, r bad ones behind them -/
structure Wl (d : Dv) (c : Cf) (T : List (List Int)) (a : Int) (m : Sm) (p r : Nat) : Prop where
  ok : okG m.g = true
  st : m.g.st = stg d p
  tr : m.g.st < 8 → m.g.tr = r
  ad : m.g.ad = a
  m0 : 2 ≤ m.g.st → m.g.m0 = d.m0
  dv : 4 ≤ m.g.st → m.g.d = d
  tot : 5 ≤ m.g.st → m.g.tot = ((confL c).length : Int)
  cf : 6 ≤ m.g.st → m.g.c = c
  sr : 7 ≤ m.g.st → m.g.sr = srV d T
  sr0 : m.g.st ≤ 6 → m.g.sr = ⟨#[]⟩
  dev : Dst a m.g.st m.s m.a m.h
section
variable {d : Dv} {c : Cf} {T : List (List Int)} {a : Int} {m : Sm} {p r : Nat}
/-- what stands behind a good answer, in words of the greeting -/
theorem Wl.good_of (h : Wl d c T a m p r) (hn : nxE m.g = 0) {X : Ans} {k : Gr} (hk : keepV m.g X.t = some k) (ek : k.st = m.g.st) (ea : k.ad = m.g.ad)
    (h0 : 1 ≤ m.g.st → k.m0 = d.m0) (h1 : 3 ≤ m.g.st → k.d = d) (h2 : 4 ≤ m.g.st → k.tot = ((confL c).length : Int)) (h3 : 5 ≤ m.g.st → k.c = c) (h4 : 6 ≤ m.g.st → k.sr = srV d T) (h5 : m.g.st ≤ 5 → k.sr = ⟨#[]⟩)
    (hdv : Dst a (m.g.st + 1) X.s X.a X.h) : Wl d c T a ⟨{ k with tr := 0, st := stepB k }, X.s, X.a, X.h, m.n + 1⟩ (p + 1) 0 := by
  obtain ⟨hok, h8⟩ := nx_ok.1 hn
  have hb : stepB k = stg d (p + 1) := by
    rw [stg_next d p (by rw [← h.st]; omega), ← h.st]
    unfold stepB
    rw [ek]
    by_cases q : m.g.st = 5
    · rw [h1 (by omega)]
    · rw [if_neg (fun z => q z.1), if_neg (fun z => q z.1)]
  have hs : stepB k = 7 ∧ m.g.st = 5 ∧ d.se = 0 ∨ stepB k = m.g.st + 1 := by
    unfold stepB
    rw [ek]
    split
    · rename_i q
      left
      exact ⟨rfl, q.1, by rw [← h1 (by omega)]; exact q.2⟩
    · right; rfl
  have hrg := (okG_iff m.g).1 hok
  exact ⟨ok_kept hok h8 hk, hb, fun _ => rfl, by show k.ad = a; rw [ea]; exact h.ad, fun _ => h0 (by omega), fun q => h1 (by have : 4 ≤ stepB k := q; omega), fun q => h2 (by have : 5 ≤ stepB k := q; omega), fun q => h3 (by have : 6 ≤ stepB k := q; omega),
    fun q => by
      have q : 7 ≤ stepB k := q
      show k.sr = _
      rcases hs with ⟨_, z, z0⟩ | z
      · rw [h5 (by omega)]; unfold srV; rw [if_pos z0]
      · exact h4 (by omega),
    fun q => h5 (by have : stepB k ≤ 6 := q; omega),
    by
      show Dst a (stepB k) X.s X.a X.h
      unfold Dst at hdv ⊢
      omega⟩
theorem Wl.good (hS : chkS d c T = 0) (hbb : ∀ f ∈ c.fs, BB f.ex) (ha : 1 ≤ a ∧ a ≤ 127) (h : Wl d c T a m p r) (hn : nxE m.g = 0) {X : Ans} (hX : ctl d c T m.s m.a m.h (nxT m.g) = X) :
    Wl d c T a ⟨tlG m.g X.t X.e, X.s, X.a, X.h, m.n + 1⟩ (p + 1) 0 ∧ Dst a m.g.st X.s X.a X.h := by
  have hr := h.dev.right ha
  rw [ctl_nx hS hn hr] at hX
  obtain ⟨hok, h8⟩ := nx_ok.1 hn
  have hrg := (okG_iff m.g).1 hok
  have h7 := st_seven hok h8
  have hdev := h.dev
  have hva : 1 ≤ c.va := ((chkC_ok (chkS_ok hS).2.2.1).head.1).1
  rcases h7 with e | e | e | e | e | e | e
  · have eK : askK m.g = 5 := by simp [askK, e]
    have eV : askV m.g = 256 := by simp [askV, e]
    have eL : askL m.g = 8 := by simp [askL, e]
    rw [eK, eV, eL, act_5, des_256, desA_some] at hX
    subst hX
    obtain ⟨q1, q2⟩ := head_d hS
    have hk : keepV m.g (cutT (wdT d) 8) = some { m.g with m0 := d.m0 } := by rw [k1 e, if_pos q1, q2]
    refine ⟨?_, hdev⟩
    rw [tl_some hn hk]
    refine h.good_of hn (X := ⟨m.s, m.a, m.h, cutT (wdT d) 8, 0⟩) hk rfl rfl (fun _ => rfl) (fun q => by omega) (fun q => by omega) (fun q => by omega) (fun q => by omega) (fun _ => h.sr0 (by omega)) ?_
    show Dst a (m.g.st + 1) m.s m.a m.h
    unfold Dst at hdev ⊢
    omega
  · have eK : askK m.g = 4 := by simp [askK, e]
    have eV : askV m.g = a := by simp [askV, e, h.ad]
    have hne : ¬ m.s = 2 := by unfold Dst at hdev; omega
    rw [eK, eV, act_4, if_neg hne, if_neg (by omega)] at hX
    subst hX
    have hk : keepV m.g noT = some m.g := by rw [k27 (.inl e)]; exact if_pos rfl
    have hd : Dst a m.g.st 1 a 0 := by unfold Dst; omega
    refine ⟨?_, hd⟩
    rw [tl_some hn hk]
    refine h.good_of hn (X := ⟨1, a, 0, noT, 0⟩) hk rfl rfl (fun _ => h.m0 (by omega)) (fun q => by omega) (fun q => by omega) (fun q => by omega) (fun q => by omega) (fun _ => h.sr0 (by omega)) ?_
    show Dst a (m.g.st + 1) 1 a 0
    unfold Dst; omega
  · have eK : askK m.g = 5 := by simp [askK, e]
    have eV : askV m.g = 256 := by simp [askV, e]
    have eL : askL m.g = 18 := by simp [askL, e]
    rw [eK, eV, eL, act_5, des_256, desA_some] at hX
    subst hX
    obtain ⟨q1, q2⟩ := whole_d hS
    have hk : keepV m.g (cutT (wdT d) 18) = some { m.g with d := d } := by rw [k3 e, if_pos (by rw [h.m0 (by omega)]; exact q1), q2]
    refine ⟨?_, hdev⟩
    rw [tl_some hn hk]
    refine h.good_of hn (X := ⟨m.s, m.a, m.h, cutT (wdT d) 18, 0⟩) hk rfl rfl (fun _ => h.m0 (by omega)) (fun _ => rfl) (fun q => by omega) (fun q => by omega) (fun q => by omega) (fun _ => h.sr0 (by omega)) ?_
    show Dst a (m.g.st + 1) m.s m.a m.h
    unfold Dst at hdev ⊢
    omega
  · have eK : askK m.g = 5 := by simp [askK, e]
    have eV : askV m.g = 512 := by simp [askV, e]
    have eL : askL m.g = 9 := by simp [askL, e]
    rw [eK, eV, eL, act_5, des_512, desA_some] at hX
    subst hX
    obtain ⟨q1, q2, _⟩ := head_c hS hbb
    have hk : keepV m.g (cutT (wcT c) 9) = some { m.g with tot := ((confL c).length : Int) } := by rw [k4 e, if_pos q1, q2]
    refine ⟨?_, hdev⟩
    rw [tl_some hn hk]
    refine h.good_of hn (X := ⟨m.s, m.a, m.h, cutT (wcT c) 9, 0⟩) hk rfl rfl (fun _ => h.m0 (by omega)) (fun _ => h.dv (by omega)) (fun _ => rfl) (fun q => by omega) (fun q => by omega) (fun _ => h.sr0 (by omega)) ?_
    show Dst a (m.g.st + 1) m.s m.a m.h
    unfold Dst at hdev ⊢
    omega
  · have eK : askK m.g = 5 := by simp [askK, e]
    have eV : askV m.g = 512 := by simp [askV, e]
    have eL : askL m.g = ((confL c).length : Int) := by simp [askL, e, h.tot (by omega)]
    rw [eK, eV, eL, act_5, des_512, desA_some] at hX
    subst hX
    obtain ⟨q1, q2⟩ := whole_c hS hbb
    have hk : keepV m.g (cutT (wcT c) ((confL c).length : Int)) = some { m.g with c := c } := by
      rw [k5 e, q1, q2]
      exact if_pos (h.tot (by omega)).symm
    refine ⟨?_, hdev⟩
    rw [tl_some hn hk]
    refine h.good_of hn (X := ⟨m.s, m.a, m.h, cutT (wcT c) ((confL c).length : Int), 0⟩) hk rfl rfl (fun _ => h.m0 (by omega)) (fun _ => h.dv (by omega)) (fun _ => h.tot (by omega)) (fun _ => rfl) (fun q => by omega) (fun _ => h.sr0 (by omega)) ?_
    show Dst a (m.g.st + 1) m.s m.a m.h
    unfold Dst at hdev ⊢
    omega
  · have hse : d.se ≠ 0 := stg_six d p (by rw [← h.st]; exact e)
    have eK : askK m.g = 5 := by simp [askK, e]
    have eV : askV m.g = 768 + d.se := by simp [askV, e, h.dv (by omega)]
    have eL : askL m.g = 255 := by simp [askL, e]
    obtain ⟨q1, q2, q3⟩ := text_d hS hse
    rw [eK, eV, eL, act_5, q1, desA_some] at hX
    subst hX
    have hk : keepV m.g (cutT (dtxt (seT d T)) 255) = some { m.g with sr := utf.clean (seT d T) } := by rw [k6 e, if_pos q2, q3]
    refine ⟨?_, hdev⟩
    rw [tl_some hn hk]
    refine h.good_of hn (X := ⟨m.s, m.a, m.h, cutT (dtxt (seT d T)) 255, 0⟩) hk rfl rfl (fun _ => h.m0 (by omega)) (fun _ => h.dv (by omega)) (fun _ => h.tot (by omega)) (fun _ => h.cf (by omega)) (fun _ => by show utf.clean (seT d T) = _; unfold srV; rw [if_neg hse]) (fun q => by omega) ?_
    show Dst a (m.g.st + 1) m.s m.a m.h
    unfold Dst at hdev ⊢
    omega
  · have eK : askK m.g = 6 := by simp [askK, e]
    have eV : askV m.g = c.va := by simp [askV, e, h.cf (by omega)]
    have hne : ¬ m.s = 0 := by unfold Dst at hdev; omega
    have hma : m.a = a := by unfold Dst at hdev; omega
    rw [eK, eV, act_6, if_neg hne, if_neg (by omega), if_pos rfl, hma] at hX
    subst hX
    have hk : keepV m.g noT = some m.g := by rw [k27 (.inr e)]; exact if_pos rfl
    have hd : Dst a m.g.st 2 a 0 := by unfold Dst; omega
    refine ⟨?_, hd⟩
    rw [tl_some hn hk]
    refine h.good_of hn (X := ⟨2, a, 0, noT, 0⟩) hk rfl rfl (fun _ => h.m0 (by omega)) (fun _ => h.dv (by omega)) (fun _ => h.tot (by omega)) (fun _ => h.cf (by omega)) (fun _ => h.sr (by omega)) (fun q => by omega) ?_
    show Dst a (m.g.st + 1) 2 a 0
    unfold Dst; omega
theorem Wl.miss (h : Wl d c T a m p r) (hn : nxE m.g = 0) (hr : r < 2) {s t : ByteArray} {z : Int} (hz : z ≠ 0) {x y w : Int} (hd : Dst a m.g.st x y w) : Wl d c T a ⟨tlG m.g t z, x, y, w, m.n + 1⟩ p (r + 1) := by
  obtain ⟨hok, h8⟩ := nx_ok.1 hn
  have htr := h.tr (by omega)
  rw [tl_miss hn hz]
  have e : missG m.g z = { m.g with tr := m.g.tr + 1 } := by unfold missG; rw [if_neg (by omega)]
  have hok2 : okG (missG m.g z) = true := ok_miss hok
  rw [e] at hok2 ⊢
  exact ⟨hok2, h.st, fun _ => by show m.g.tr + 1 = ((r + 1 : Nat) : Int); omega, h.ad, h.m0, h.dv, h.tot, h.cf, h.sr, h.sr0, hd⟩
theorem Wl.over (h : Wl d c T a m p r) (hn : ¬ nxE m.g = 0) (n r' : Nat) : Wl d c T a m (p + n) r' := by
  have h8 : m.g.st = 8 := by
    have := stg_le d p
    have hs := h.st
    apply Classical.byContradiction
    intro q
    exact hn (nx_ok.2 ⟨h.ok, by omega⟩)
  have hp := (stg_done d p).1 (by rw [← h.st]; exact h8)
  exact ⟨h.ok, by rw [h8]; exact ((stg_done d (p + n)).2 (by omega)).symm, fun q => by omega, h.ad, h.m0, h.dv, h.tot, h.cf, h.sr, h.sr0, h.dev⟩
theorem Wl.new (hS : chkS d c T = 0) (ha : adB a = true) : Wl d c T a ⟨nwG a, 0, 0, 0, 0⟩ 0 0 :=
  ⟨ok_new ha, rfl, fun _ => rfl, rfl, fun q => absurd (show (2 : Int) ≤ 1 from q) (by omega), fun q => absurd (show (4 : Int) ≤ 1 from q) (by omega), fun q => absurd (show (5 : Int) ≤ 1 from q) (by omega), fun q => absurd (show (6 : Int) ≤ 1 from q) (by omega), fun q => absurd (show (7 : Int) ≤ 1 from q) (by omega), fun _ => rfl, rfl, .inl ⟨rfl, rfl, (show (1 : Int) ≤ 2 by omega)⟩⟩
end
/-- how many good fates there are -/
def gds : List Int → Nat
  | [] => 0
  | f :: F => (if f = 1 then 1 else 0) + gds F
/-- no three bad ones in a row -/
def fewB : Nat → List Int → Bool
  | _, [] => true
  | r, f :: F => if f = 1 then fewB 0 F else if 2 ≤ r then false else fewB (r + 1) F
theorem Wl.run {d : Dv} {c : Cf} {T : List (List Int)} {a : Int} (hS : chkS d c T = 0) (hbb : ∀ f ∈ c.fs, BB f.ex) (ha : 1 ≤ a ∧ a ≤ 127) : ∀ (F : List Int) (m : Sm) (p r : Nat), (∀ f ∈ F, fateB f = true) → fewB r F = true → Wl d c T a m p r →
    ∃ r', Wl d c T a (runM d c T F m) (p + gds F) r'
  | [], m, p, r, _, _, h => ⟨r, h⟩
  | f :: F, m, p, r, hf, hw, h => by
    rw [runM]
    by_cases hn : nxE m.g = 0
    case neg => rw [if_neg hn]; exact ⟨0, h.over hn _ 0⟩
    rw [if_pos hn]
    have hff := (fate_iff f).1 (hf f (List.mem_cons_self ..))
    have hF : ∀ f ∈ F, fateB f = true := fun x hx => hf x (List.mem_cons_of_mem _ hx)
    obtain ⟨hg1, hg2⟩ := h.good hS hbb ha hn rfl
    rw [fewB] at hw
    by_cases h1 : f = 1
    · subst h1
      rw [if_pos rfl] at hw
      have hs : Wl d c T a (stpM d c T m 1) (p + 1) 0 := by
        unfold stpM tryV
        rw [if_pos rfl]
        exact hg1
      obtain ⟨r', hr'⟩ := Wl.run hS hbb ha F _ _ _ hF hw hs
      refine ⟨r', ?_⟩
      rw [gds, if_pos rfl, ← Nat.add_assoc]
      exact hr'
    · rw [if_neg h1] at hw
      have hr : r < 2 := by
        apply Classical.byContradiction
        intro q
        rw [if_pos (by omega)] at hw
        cases hw
      rw [if_neg (by omega)] at hw
      have hs : Wl d c T a (stpM d c T m f) p (r + 1) := by
        unfold stpM tryV
        rw [if_neg h1]
        by_cases h3 : f = 3
        · rw [if_pos h3]; exact h.miss (s := noT) hn hr (show (9 : Int) ≠ 0 by decide) hg2
        rw [if_neg h3]
        by_cases h4 : f = 4
        · rw [if_pos h4]; exact h.miss (s := noT) hn hr (show (10 : Int) ≠ 0 by decide) h.dev
        rw [if_neg h4]
        by_cases h5 : f = 5
        · rw [if_pos h5]; exact h.miss (s := noT) hn hr (show (8 : Int) ≠ 0 by decide) h.dev
        rw [if_neg h5]
        exact h.miss (s := noT) hn hr (show (9 : Int) ≠ 0 by decide) h.dev
      obtain ⟨r', hr'⟩ := Wl.run hS hbb ha F _ _ _ hF hw hs
      refine ⟨r', ?_⟩
      rw [gds, if_neg h1, Nat.zero_add]
      exact hr'
/-- a device is met -/
theorem met_well {d : Dv} {c : Cf} {T : List (List Int)} {a : Int} {F : List Int} (h : begE d c T a F = 0) (hbb : ∀ f ∈ c.fs, BB f.ex) (hw : fewB 0 F = true) :
    (gds F < asksN d → (metM d c T a F).g.st < 8) ∧ (asksN d ≤ gds F → (metM d c T a F).g.st = 8 ∧ (metM d c T a F).s = 2 ∧ (metM d c T a F).a = a ∧ (metM d c T a F).h = 0 ∧ (metM d c T a F).g.d = d ∧ (metM d c T a F).g.c = c ∧ (metM d c T a F).g.sr = srV d T) := by
  have hm : metM d c T a F = runM d c T F ⟨nwG a, 0, 0, 0, 0⟩ := by unfold metM; rw [if_neg (fun q => q h)]
  rw [hm]
  have hS : chkS d c T = 0 := by
    unfold begE at h
    split at h
    · rename_i q; exact absurd h q
    · rename_i q; omega
  have hA : adB a = true := by
    cases q : adB a with
    | true => rfl
    | false =>
      unfold begE at h
      rw [if_neg (fun z => z hS), if_pos q] at h
      omega
  have hC : ckF F = 0 := by
    unfold begE at h
    rw [if_neg (fun z => z hS), if_neg (by rw [hA]; decide)] at h
    exact h
  have hF : ∀ f ∈ F, fateB f = true := by
    unfold ckF at hC
    split at hC
    · omega
    split at hC
    · omega
    · rename_i q
      have : F.all fateB = true := by
        cases z : F.all fateB with
        | true => rfl
        | false => exact absurd z q
      exact List.all_eq_true.1 this
  have ha : 1 ≤ a ∧ a ≤ 127 := by
    unfold adB at hA
    exact inS_iff.1 hA
  obtain ⟨r', hr⟩ := Wl.run hS hbb ha F _ 0 0 hF hw (Wl.new hS hA)
  rw [Nat.zero_add] at hr
  refine ⟨fun q => ?_, fun q => ?_⟩
  · have h1 := stg_le d (gds F)
    have h2 := stg_done d (gds F)
    have h3 := hr.st
    omega
  · have h8 : (runM d c T F ⟨nwG a, 0, 0, 0, 0⟩).g.st = 8 := by rw [hr.st]; exact (stg_done d _).2 q
    have hd := hr.dev
    unfold Dst at hd
    exact ⟨h8, by omega, by omega, hd.1, hr.dv (by omega), hr.cf (by omega), hr.sr (by omega)⟩
end Go.Proofs.Ytonheibhbilhhaa.greet
