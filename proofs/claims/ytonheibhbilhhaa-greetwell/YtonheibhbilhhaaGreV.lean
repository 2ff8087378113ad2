/- greet: what Meet answers. -/
import Derived.Test.YtonheibhbilhhaaGreU
namespace Go.Proofs.Ytonheibhbilhhaa.greet
open Go Go.RowKit Go.PlainAid Go.Proofs.Ytonheibhbilhhaa.lane Go.Proofs.Ytonheibhbilhhaa.desc Go.Proofs.Ytonheibhbilhhaa.gadget
set_option linter.unusedVariables false
set_option linter.unusedSimpArgs false
set_option maxRecDepth 100000

theorem cut_small (t : ByteArray) {l : Int} (h : l ≤ 65535) : (cutT t l).size ≤ maxLen := by
  unfold cutT
  rw [ByteArray.size_extract]
  unfold maxLen
  omega
theorem act_small {d : Dv} {c : Cf} {T : List (List Int)} {s a h k v i l : Int} (hl : l ≤ 65535) : (act d c T s a h k v i l).t.size ≤ maxLen := by
  have h0 : (noT : ByteArray).size ≤ maxLen := Nat.zero_le _
  have hb : ∀ e : Int, (bad s a h e).t.size ≤ maxLen := fun e => h0
  have hs : ∀ L : List Int, L.length ≤ 2 → (strOfNums L).size ≤ maxLen := fun L hL => by rw [str_size]; unfold maxLen; omega
  unfold act
  split
  · exact hs _ (by simp)
  split
  · split
    · exact hb _
    · exact cut_small _ hl
  split
  · split
    · exact hb _
    split
    · exact h0
    · exact h0
  split
  · split
    · exact hb _
    split
    · exact h0
    split
    · exact h0
    · exact hb _
  split
  · split
    · exact hb _
    split
    · exact hs _ (by simp)
    · exact hs _ (by simp)
  split
  · split
    · exact hb _
    split
    · exact hb _
    split
    · exact h0
    · exact h0
  · exact hb _
theorem ctl_small (d : Dv) (c : Cf) (T : List (List Int)) (s a h : Int) (q : ByteArray) : (ctl d c T s a h q).t.size ≤ maxLen := by
  have hb : ∀ e : Int, (bad s a h e).t.size ≤ maxLen := fun e => Nat.zero_le _
  unfold ctl
  split
  · exact hb _
  split
  · exact hb _
  split
  · exact hb _
  · rename_i h1
    have hg := read_good (q := q) (by omega)
    exact act_small (setup.good_words hg).2.2.2.2
theorem try_small (d : Dv) (c : Cf) (T : List (List Int)) (s a h : Int) (q : ByteArray) (f : Int) : (tryV d c T s a h q f).t.size ≤ maxLen := by
  rcases try_size d c T s a h q f with e | e
  · rw [e]; exact ctl_small ..
  · rw [e]; exact Nat.zero_le _
theorem nx_small (g : Gr) : (nxT g).size ≤ maxLen := by
  unfold nxT
  split
  · exact Nat.zero_le _
  split
  · exact Nat.zero_le _
  · unfold setup.wrT
    split
    · rw [str_size]
      have : (setup.txt (askK g) (askV g) 0 (askL g)).length = 8 := rfl
      rw [this]; unfold maxLen; omega
    · exact Nat.zero_le _
/-- the meeting at work -/
structure Mt (d : Dv) (c : Cf) (T : List (List Int)) (F : List Int) (m0 m : Sm) (k : Nat) (D : FL) : Prop where
  fs : D.map Prod.fst = m.g.c.fs
  wt : Wt m.g.c
  ok : okG m.g = true
  n : m.n = k
  run : runM d c T (F.drop k) m = runM d c T F m0
theorem Mt.step {d : Dv} {c : Cf} {T : List (List Int)} {F : List Int} {m0 m : Sm} {k : Nat} {D D' : FL} {f : Int} (h : Mt d c T F m0 m k D) (hf : F[k]? = some f) (hn : nxE m.g = 0) (hD : D'.map Prod.fst = (stpM d c T m f).g.c.fs) : Mt d c T F m0 (stpM d c T m f) (k + 1) D' := by
  refine ⟨hD, wt_tl h.wt _ _, ok_tl hn _ _, by show m.n + 1 = k + 1; rw [h.n], ?_⟩
  rw [← h.run]
  obtain ⟨h1, h2⟩ := List.getElem?_eq_some_iff.1 hf
  rw [List.drop_eq_getElem_cons h1, h2, runM, if_pos hn]
theorem Mt.stop {d : Dv} {c : Cf} {T : List (List Int)} {F : List Int} {m0 m : Sm} {k : Nat} {D : FL} {f : Int} (h : Mt d c T F m0 m k D) (hf : F[k]? = some f) (hn : ¬ nxE m.g = 0) : runM d c T F m0 = m := by
  rw [← h.run]
  obtain ⟨h1, h2⟩ := List.getElem?_eq_some_iff.1 hf
  rw [List.drop_eq_getElem_cons h1, runM, if_neg hn]
theorem Mt.end {d : Dv} {c : Cf} {T : List (List Int)} {F : List Int} {m0 m : Sm} {k : Nat} {D : FL} (h : Mt d c T F m0 m k D) (hk : F.length ≤ k) : runM d c T F m0 = m := by
  rw [← h.run, List.drop_eq_nil_of_le hk, runM]
/-- what Meet tells -/
def MtP (d : Dv) (c : Cf) (T : List (List Int)) (x : Int) (F : List Int) (w : World) (r : Ending) (w' : World) : Prop :=
  ∃ u' L', r = .returned (.tuple #[grV (metM d c T x F).g u', ag (gdl (metM d c T x F).s (metM d c T x F).a (metM d c T x F).h), .int .i64 ((metM d c T x F).n : Int), .int .i64 (begE d c T x F)]) ∧ Oc w w' u' L' ∧ L'.map Prod.fst = (metM d c T x F).g.c.fs ∧ Below w.heap.size w w'
theorem ret_mt {M m : Sm} {u' : Value} {e e' : Int} (h : M = m) (he : e = e') : Ending.returned (.tuple #[grV m.g u', ag (gdl m.s m.a m.h), .int .i64 (m.n : Int), .int .i64 e']) = .returned (.tuple #[grV M.g u', ag (gdl M.s M.a M.h), .int .i64 (M.n : Int), .int .i64 e]) := by rw [h, he]
set_option maxHeartbeats 16000000 in
theorem meet_any (hco : CoAll) (d : Dv) (c : Cf) (L : FL) (v : Value) (T : List (List Int)) (tv : Value) (x : Int) (vF : Value) (F : List Int) (w : World) (hs : Shr w c L v T tv) (hF : Ris w vF F) :
    Calls Try.prog 19 #[ag (shl d c v tv), .int .i64 x, vF] w (MtP d c T x F w) := by
  have HB : Hid (∀ u, Below w.heap.size w u → Calls Try.prog 37 #[ag (shl d c v tv), .int .i64 x, vF] u fun e w' => (∃ g, (begE d c T x F = 0 → g = nwG x) ∧ e = .returned (.tuple #[grV g nilS, .int .i64 (begE d c T x F)])) ∧ Below u.heap.size u w') := fun u hu => begin_any d c L v T tv x vF F u (hs.below hu) (hF.below hu)
  have HNx : Hid (∀ g v u, Calls Try.prog 10 #[grV g v] u fun e w' => e = .returned (.tuple #[.string (nxT g), .int .i64 (nxE g)]) ∧ Below u.heap.size u w') := fun g v u => next_any g v u
  have HTr : Hid (∀ s a h (g : Gr) f u, Below w.heap.size w u → Calls Try.prog 38 #[ag (shl d c v tv), ag (gdl s a h), .string (nxT g), .int .i64 f] u fun e w' => e = .returned (anV (tryV d c T s a h (nxT g) f)) ∧ Below u.heap.size u w') := fun s a h g f u hu => try_any d c L v T tv s a h _ f u (hs.below hu) (nx_small g)
  have HTl : Hid (∀ (m : Sm) f uv D u, Rc u uv m.g.c D → Wt m.g.c → Calls Try.prog 14 #[grV m.g uv, .string (tryV d c T m.s m.a m.h (nxT m.g) f).t, .int .i64 (tryV d c T m.s m.a m.h (nxT m.g) f).e] u (TlP m.g (tryV d c T m.s m.a m.h (nxT m.g) f).t (tryV d c T m.s m.a m.h (nxT m.g) f).e u)) := fun m f uv D u hc hw => tell_any hco m.g uv D _ _ u hc hw (try_small ..)
  have HRF : Hid (∀ u, Below w.heap.size w u → Ris u vF F) := fun u hu => hF.below hu
  have HSO : Hid (v.oneCell' = true ∧ tv.oneCell' = true) := ⟨rc_one hs.rc, by obtain ⟨a, c, h, _⟩ := hs.tx; rw [h]; rfl⟩
  obtain ⟨fa, fc, hvf, hfc1, hfc2, _⟩ := hF
  have hM := Mo.nil w
  clear hs hco
  subst hvf
  by_cases h1 : begE d c T x F = 0
  case neg =>
    have HZ : Hid (¬ begE d c T x F = 0) := h1
    have HM : Hid (metM d c T x F = ⟨noGr, 0, 0, 0, 0⟩) := by show _ = _; unfold metM; rw [if_pos h1]
    have e1 : (begE d c T x F != 0) = true := by simpa using h1
    unfold MtP
    rw [HM.out]
    generalize begE d c T x F = z at *
    clear h1 HNx HTr HTl HRF HM hfc1 hfc2
    go_enter Try.func19, Try.ntmps19
    repeat' (first | (go_big_may; first | (refine v_box rfl rfl rfl ?_; intro u zs hN; replace hM := hM.new hN; clear hN) | (refine v_alloc rfl zer_greeting rfl ?_; intro u za hN; replace hM := hM.new hN; clear hN) | (refine v_alloc rfl zer_gadget rfl ?_; intro u zb hN; replace hM := hM.new hN; clear hN) | (refine v_load rfl rfl row_sheet rfl hM.at2 (Nat.le_refl _) (cut_all rfl) ?_)) | go_values | go_skip | go_guarded | go_step | go_upon | (simp only [Int.not_lt, Int.not_le] at *; go_simp))
    refine (HB.out _ hM.below).mono ?_
    rintro e u1 ⟨⟨g, hg, rfl⟩, hb⟩
    replace hM := hM.call hb
    clear hb hg
    repeat' (first | (go_big_may; first | (refine v_alloc rfl zer_greeting rfl ?_; intro u zc hN; replace hM := hM.new hN; clear hN) | (refine v_fill rfl rfl row_greeting rfl rfl hM.at0 (grl_vs _ rfl) rfl ?_; intro u hv hc; replace hM := hM.put0 hc hv; clear hv hc) | (refine v_build rfl rfl bld_gr0 ?hbv ?_; (case hbv => simp [Act.eval, Act.put])) | (refine v_build rfl rfl bld_gd0 ?hbv ?_; (case hbv => simp [Act.eval, Act.put])) | (refine v_fill rfl rfl row_greeting rfl rfl hM.at2 (grl_vs noGr rfl) rfl ?_; intro u hv hc; replace hM := hM.put2 hc hv; clear hv hc) | (refine v_fill rfl rfl row_gadget rfl rfl hM.at1 (gdl_vs 0 0 0) rfl ?_; intro u hv hc; replace hM := hM.put1 hc hv; clear hv hc)) | go_values | go_skip | go_guarded | go_step | go_upon | (simp only [Int.not_lt, Int.not_le] at *; go_simp))
    exact bodyPost_ret (ret_cctt rfl rfl (ld_var row_greeting hM.at2 rfl) rfl (ld_var row_gadget hM.at1 rfl) rfl rfl) rfl ⟨nilS, [], rfl, hM.own, rfl, hM.below⟩
  have HM : Hid (metM d c T x F = runM d c T F ⟨nwG x, 0, 0, 0, 0⟩) := by show _ = _; unfold metM; rw [if_neg (fun q => q h1)]
  unfold MtP
  rw [HM.out, h1]
  rw [h1] at HB
  obtain ⟨n, hn⟩ : ∃ n, F.length = n := ⟨_, rfl⟩
  have HN : Hid (F.length = n) := hn
  have hnb : n ≤ 1000 := by
    have h2 := h1
    unfold begE at h2
    split at h2
    · exact absurd h2 (by assumption)
    split at h2
    · omega
    unfold ckF at h2
    split at h2
    · omega
    · omega
  have hax : adB x = true := by
    have h2 := h1
    unfold begE at h2
    split at h2
    · exact absurd h2 (by assumption)
    split at h2
    · omega
    · cases q : adB x with
      | true => rfl
      | false => exact absurd q (by assumption)
  have hM0 : Mt d c T F ⟨nwG x, 0, 0, 0, 0⟩ ⟨nwG x, 0, 0, 0, 0⟩ 0 [] := ⟨rfl, ⟨Nat.zero_le _, fun f hf => by cases hf⟩, ok_new hax, rfl, rfl⟩
  obtain ⟨m0, hm0⟩ : ∃ m0 : Sm, (⟨nwG x, 0, 0, 0, 0⟩ : Sm) = m0 := ⟨_, rfl⟩
  have HM0 : Hid (Mt d c T F m0 ⟨nwG x, 0, 0, 0, 0⟩ 0 []) := by rw [← hm0]; exact hM0
  rw [hm0]
  rw [hn] at HB HRF ⊢
  obtain ⟨MM, hMM⟩ : ∃ MM, runM d c T F m0 = MM := ⟨_, rfl⟩
  have HMM : Hid (runM d c T F m0 = MM) := hMM
  rw [hMM]
  clear HM h1 hn hfc1 hfc2 hM0 hm0 hMM hax
  go_enter Try.func19, Try.ntmps19
  repeat' (first | (go_big_may; first | (refine v_box rfl rfl rfl ?_; intro u zs hN; replace hM := hM.new hN; clear hN) | (refine v_alloc rfl zer_greeting rfl ?_; intro u za hN; replace hM := hM.new hN; clear hN) | (refine v_alloc rfl zer_gadget rfl ?_; intro u zb hN; replace hM := hM.new hN; clear hN) | (refine v_load rfl rfl row_sheet rfl hM.at2 (Nat.le_refl _) (cut_all rfl) ?_)) | go_values | go_skip | go_guarded | go_step | go_upon | (simp only [Int.not_lt, Int.not_le] at *; go_simp))
  refine (HB.out _ hM.below).mono ?_
  rintro e u1 ⟨⟨g, hg, rfl⟩, hb⟩
  have hgg : g = nwG x := by first | exact hg rfl | exact hg trivial
  subst hgg
  replace hM := hM.call hb
  clear hb hg HB
  repeat' (first | (go_big_may; first | (refine v_alloc rfl zer_greeting rfl ?_; intro u zc hN; replace hM := hM.new hN; clear hN) | (refine v_fill rfl rfl row_greeting rfl rfl hM.at0 (grl_vs _ rfl) rfl ?_; intro u hv hc; replace hM := hM.put0 hc hv; clear hv hc) | (refine v_build rfl rfl bld_gd0 ?hbv ?_; (case hbv => simp [Act.eval, Act.put])) | (refine v_alloc rfl zer_gadget rfl ?_; intro u zd hN; replace hM := hM.new hN; clear hN) | (refine v_fill rfl rfl row_gadget rfl rfl hM.at0 (gdl_vs 0 0 0) rfl ?_; intro u hv hc; replace hM := hM.put0 hc hv; clear hv hc)) | go_values | go_skip | go_guarded | go_step | go_upon | (simp only [Int.not_lt, Int.not_le] at *; go_simp))
  go_loopw [11, 13, 14, 15, 16, 17, 33] (fun _ _ _ _ _ _ i wr => ∃ (k : Nat) (m : Sm) (vf : Value) (D : FL), k ≤ n ∧ i = .int .i64 (k : Int) ∧ Hid (Mo w wr [(zd, 52, gdl m.s m.a m.h), (zc, 29, grl m.g vf), (zb, 52, gdl 0 0 0), (za, 29, grl noGr nilS), (zs, 50, shl d c v tv)] vf D ∧ Mt d c T F m0 m k D)) (fun _ _ _ _ _ _ i _ => n - (intOf i).toNat)
  case atStart => exact ⟨0, _, nilS, [], Nat.zero_le _, rfl, hM, HM0.out⟩
  case round =>
    clear hM
    obtain ⟨k, m, vf, D, hk, rfl, HA⟩ := hrel
    have hM := HA.out.1
    have HMt : Hid (Mt d c T F m0 m k D) := HA.out.2
    have HV : Hid (vf.oneCell' = true) := hM.own.one
    have HG : Hid (Vs (grl m.g vf) 24) := grl_vs _ HV.out
    have HD : Hid (Vs (gdl m.s m.a m.h) 3) := gdl_vs _ _ _
    have HL : Hid (0 + 24 ≤ (grl m.g vf).length) := Nat.le_refl _
    have HC : Hid (cut (grl m.g vf) 0 24 = grl m.g vf) := cut_all rfl
    have HL3 : Hid (0 + 3 ≤ (gdl m.s m.a m.h).length) := Nat.le_refl _
    have HC3 : Hid (cut (gdl m.s m.a m.h) 0 3 = gdl m.s m.a m.h) := cut_all rfl
    clear HA
    by_cases hlt : ¬ k < n
    · have HR : Hid (MM = m) := HMM.out.symm.trans (HMt.out.end (by rw [HN.out]; omega))
      have HK : Hid (m.n = n) := by have := HMt.out.n; show _ = _; omega
      go_upto_region 15 with (fail)
      refine reg.wp_abs (fun a0 => a0.tmps.size = 69 ∧ (∀ h, a0.tmps[2]'h = .slice fa n fc) ∧ (∀ h, a0.tmps[6]'h = .pointer (some ⟨za, 0, none⟩)) ∧ (∀ h, a0.tmps[7]'h = .pointer (some ⟨zb, 0, none⟩)) ∧ (∀ h, a0.tmps[10]'h = .pointer (some ⟨zc, 0, none⟩)) ∧ (∀ h, a0.tmps[12]'h = .pointer (some ⟨zd, 0, none⟩))) ⟨rfl, fun _ => rfl, fun _ => rfl, fun _ => rfl, fun _ => rfl, fun _ => rfl⟩ ?_
      rintro a0 ⟨hsz, s2, s6, s7, s10, s12⟩ ha0
      refine reg.wp_region_E (S := fun W => Ls W [(zd, 52, (gdl m.s m.a m.h)), (zc, 29, (grl m.g vf))]) (E := fun _ => false) (by kernel_rfl) ?_
      replace hM := hM.drew
      refine reg.e_take (i := 0) (ag ((grl m.g vf))) rfl (by kernel_rfl) (by kernel_rfl) (by kernel_rfl) (by kernel_rfl) (fun _ _ _ h => h) (reg.wanted_none rfl) (hM.ls (by simp)) (fun W hW => ex_load rfl row_greeting (by simp [go_sem, Act.put, hsz, s2, s6, s7, s10, s12]) hW.at1 HL.out HC.out) ?_
      refine reg.e_take (i := 1) (ag ((gdl m.s m.a m.h))) rfl (by kernel_rfl) (by kernel_rfl) (by kernel_rfl) (by kernel_rfl) (fun _ _ _ h => h) (reg.wanted_none rfl) (hM.ls (by simp)) (fun W hW => ex_load rfl row_gadget (by simp [go_sem, Act.put, hsz, s2, s6, s7, s10, s12]) hW.at0 HL3.out HC3.out) ?_
      refine reg.e_take (i := 2) (.slice fa n fc) rfl (by kernel_rfl) (by kernel_rfl) (by kernel_rfl) (by kernel_rfl) (fun _ _ _ h => h) (reg.wanted_none rfl) (hM.ls (by simp)) (fun W hW => by simp [execOp, go_sem, Act.put, hsz, s2, s6, s7, s10, s12]) ?_
      refine reg.e_take (i := 3) (.int .i64 (n : Int)) rfl (by kernel_rfl) (by kernel_rfl) (by kernel_rfl) (by kernel_rfl) (fun _ _ _ h => h) (reg.wanted_none rfl) (hM.ls (by simp)) (fun W hW => by simp [execOp, go_sem, Act.put, hsz, s2, s6, s7, s10, s12]) ?_
      refine reg.e_one 4 (by kernel_rfl) rfl ?_
      refine r_fill (i := 4) rfl (reg.wanted_none rfl) rfl row_greeting (by simp [go_sem, Act.put, hsz, s2, s6, s7, s10, s12]) (by simp [go_sem, Act.put, hsz, s2, s6, s7, s10, s12]) hM.at3 HG.out rfl ?_
      intro ru1 rhv rhc
      replace hM := hM.put3 rhc rhv
      clear rhc rhv
      refine ⟨hM.ls (by simp), ?_⟩
      refine reg.e_one 5 (by kernel_rfl) rfl ?_
      refine r_fill (i := 5) rfl (reg.wanted_none rfl) rfl row_gadget (by simp [go_sem, Act.put, hsz, s2, s6, s7, s10, s12]) (by simp [go_sem, Act.put, hsz, s2, s6, s7, s10, s12]) hM.at2 HD.out rfl ?_
      intro ru2 rhv rhc
      replace hM := hM.put2 rhc rhv
      clear rhc rhv
      refine ⟨hM.ls (by simp), ?_⟩
      refine reg.e_take (i := 6) (.int .i64 (n : Int)) rfl (by kernel_rfl) (by kernel_rfl) (by kernel_rfl) (by kernel_rfl) (fun _ _ _ h => h) (reg.wanted_none rfl) (hM.ls (by simp)) (fun W hW => by simp [execOp, go_sem, Act.put, hsz, s2, s6, s7, s10, s12]) ?_
      refine reg.e_take (i := 7) (.int .i64 0) rfl (by kernel_rfl) (by kernel_rfl) (by kernel_rfl) (by kernel_rfl) (fun _ _ _ h => h) (reg.wanted_none rfl) (hM.ls (by simp)) (fun W hW => by simp [execOp, go_sem, Act.put, hsz, s2, s6, s7, s10, s12]) ?_
      refine reg.e_done (by kernel_rfl) ?_ _
      subst ha0
      clear hsz s2 s6 s7 s10 s12
      go_simp
      repeat' (first | go_values | go_skip | go_guarded | go_step | go_upon | (simp only [Int.not_lt, Int.not_le] at *; go_simp))
      exact bodyPost_ret (ret_cctt rfl rfl (ld_var row_greeting hM.at3 HG.out.len) rfl (ld_var row_gadget hM.at2 HD.out.len) rfl rfl) rfl ⟨vf, D, by rw [HR.out, ← HK.out]; rfl, hM.own, by rw [HR.out]; exact HMt.out.fs, hM.below⟩
    have hlt : k < n := by omega
    obtain ⟨f, hf⟩ : ∃ f, F[k]? = some f := ⟨F[k]'(by rw [HN.out]; exact hlt), List.getElem?_eq_getElem _⟩
    obtain ⟨fg, off, hfa, hcell⟩ := (HRF.out w (Below.refl _ _)).at k f hf
    subst hfa
    have cF := hcell wr hM.below
    have HF : Hid (F[k]? = some f) := hf
    clear hcell hf
    repeat' (first | (go_big_may; first | (refine v_load rfl rfl row_greeting rfl hM.at1 (Nat.le_refl _) (cut_all rfl) ?_)) | go_values | go_skip | go_guarded | go_step | go_upon | (simp only [Int.not_lt, Int.not_le] at *; go_simp))
    refine (HNx.out _ _ _).mono ?_
    rintro e u2 ⟨rfl, hb⟩
    replace hM := hM.call hb
    clear hb cF
    by_cases hn : nxE m.g = 0
    case neg =>
      have e1 : (nxE m.g != 0) = true := by simpa using hn
      have HR : Hid (MM = m) := HMM.out.symm.trans (HMt.out.stop HF.out hn)
      have HK : Hid (m.n = k) := HMt.out.n
      clear hn
      go_upto_region 10 with (fail)
      refine reg.wp_abs (fun a0 => a0.tmps.size = 69 ∧ (∀ h, a0.tmps[6]'h = .pointer (some ⟨za, 0, none⟩)) ∧ (∀ h, a0.tmps[7]'h = .pointer (some ⟨zb, 0, none⟩)) ∧ (∀ h, a0.tmps[10]'h = .pointer (some ⟨zc, 0, none⟩)) ∧ (∀ h, a0.tmps[12]'h = .pointer (some ⟨zd, 0, none⟩)) ∧ (∀ h, a0.tmps[13]'h = .int .i64 (k : Int))) ⟨rfl, fun _ => rfl, fun _ => rfl, fun _ => rfl, fun _ => rfl, fun _ => rfl⟩ ?_
      rintro a0 ⟨hsz, s6, s7, s10, s12, s13⟩ ha0
      refine reg.wp_region_E (S := fun W => Ls W [(zd, 52, (gdl m.s m.a m.h)), (zc, 29, (grl m.g vf))]) (E := fun _ => false) (by kernel_rfl) ?_
      replace hM := hM.drew
      refine reg.e_take (i := 0) (ag ((grl m.g vf))) rfl (by kernel_rfl) (by kernel_rfl) (by kernel_rfl) (by kernel_rfl) (fun _ _ _ h => h) (reg.wanted_none rfl) (hM.ls (by simp)) (fun W hW => ex_load rfl row_greeting (by simp [go_sem, Act.put, hsz, s6, s7, s10, s12, s13]) hW.at1 HL.out HC.out) ?_
      refine reg.e_take (i := 1) (ag ((gdl m.s m.a m.h))) rfl (by kernel_rfl) (by kernel_rfl) (by kernel_rfl) (by kernel_rfl) (fun _ _ _ h => h) (reg.wanted_none rfl) (hM.ls (by simp)) (fun W hW => ex_load rfl row_gadget (by simp [go_sem, Act.put, hsz, s6, s7, s10, s12, s13]) hW.at0 HL3.out HC3.out) ?_
      refine reg.e_take (i := 2) (.int .i64 (k : Int)) rfl (by kernel_rfl) (by kernel_rfl) (by kernel_rfl) (by kernel_rfl) (fun _ _ _ h => h) (reg.wanted_none rfl) (hM.ls (by simp)) (fun W hW => by simp [execOp, go_sem, Act.put, hsz, s6, s7, s10, s12, s13]) ?_
      refine reg.e_one 3 (by kernel_rfl) rfl ?_
      refine r_fill (i := 3) rfl (reg.wanted_none rfl) rfl row_greeting (by simp [go_sem, Act.put, hsz, s6, s7, s10, s12, s13]) (by simp [go_sem, Act.put, hsz, s6, s7, s10, s12, s13]) hM.at3 HG.out rfl ?_
      intro ru1 rhv rhc
      replace hM := hM.put3 rhc rhv
      clear rhc rhv
      refine ⟨hM.ls (by simp), ?_⟩
      refine reg.e_one 4 (by kernel_rfl) rfl ?_
      refine r_fill (i := 4) rfl (reg.wanted_none rfl) rfl row_gadget (by simp [go_sem, Act.put, hsz, s6, s7, s10, s12, s13]) (by simp [go_sem, Act.put, hsz, s6, s7, s10, s12, s13]) hM.at2 HD.out rfl ?_
      intro ru2 rhv rhc
      replace hM := hM.put2 rhc rhv
      clear rhc rhv
      refine ⟨hM.ls (by simp), ?_⟩
      refine reg.e_take (i := 5) (.int .i64 (k : Int)) rfl (by kernel_rfl) (by kernel_rfl) (by kernel_rfl) (by kernel_rfl) (fun _ _ _ h => h) (reg.wanted_none rfl) (hM.ls (by simp)) (fun W hW => by simp [execOp, go_sem, Act.put, hsz, s6, s7, s10, s12, s13]) ?_
      refine reg.e_take (i := 6) (.int .i64 0) rfl (by kernel_rfl) (by kernel_rfl) (by kernel_rfl) (by kernel_rfl) (fun _ _ _ h => h) (reg.wanted_none rfl) (hM.ls (by simp)) (fun W hW => by simp [execOp, go_sem, Act.put, hsz, s6, s7, s10, s12, s13]) ?_
      refine reg.e_done (by kernel_rfl) ?_ _
      subst ha0
      clear hsz s6 s7 s10 s12 s13
      go_simp
      repeat' (first | go_values | go_skip | go_guarded | go_step | go_upon | (simp only [Int.not_lt, Int.not_le] at *; go_simp))
      exact bodyPost_ret (ret_cctt rfl rfl (ld_var row_greeting hM.at3 HG.out.len) rfl (ld_var row_gadget hM.at2 HD.out.len) rfl rfl) rfl ⟨vf, D, by rw [HR.out, ← HK.out]; rfl, hM.own, by rw [HR.out]; exact HMt.out.fs, hM.below⟩
    have e1 : (nxE m.g != 0) = false := by simpa using hn
    have HX : Hid (nxE m.g = 0) := hn
    clear hn
    repeat' (first | (go_big_may; first | (refine v_load rfl rfl row_sheet rfl hM.at4 (Nat.le_refl _) (cut_all rfl) ?_) | (refine v_load rfl rfl row_gadget rfl hM.at0 (Nat.le_refl _) (cut_all rfl) ?_)) | go_values | go_skip | go_guarded | go_step | go_upon | (simp only [Int.not_lt, Int.not_le] at *; go_simp))
    refine (HTr.out m.s m.a m.h m.g f _ hM.below).mono ?_
    rintro e u3 ⟨rfl, hb⟩
    replace hM := hM.call hb
    clear hb
    repeat' (first | (go_big_may; first | (refine v_fill rfl rfl row_gadget rfl rfl hM.at0 (gdl_vs _ _ _) rfl ?_; intro u hv hc; replace hM := hM.put0 hc hv; clear hv hc) | (refine v_load rfl rfl row_greeting rfl hM.at1 (Nat.le_refl _) (cut_all rfl) ?_)) | go_values | go_skip | go_guarded | go_step | go_upon | (simp only [Int.not_lt, Int.not_le] at *; go_simp))
    refine (HTl.out m f vf D _ (hM.own.rc HMt.out.fs) HMt.out.wt).mono ?_
    rintro e u4 ⟨u', L', rfl, ho, hD', hb⟩
    have HO : Hid (u'.oneCell' = true) := ho.one
    have HDD : Hid (L'.map Prod.fst = (tlG m.g (tryV d c T m.s m.a m.h (nxT m.g) f).t (tryV d c T m.s m.a m.h (nxT m.g) f).e).c.fs) := hD'
    replace hM := hM.take hb ho
    clear hb ho hD'
    repeat' (first | (go_big_may; first | (refine v_fill rfl rfl row_greeting rfl rfl hM.at1 (grl_vs _ HO.out) rfl ?_; intro u hv hc; replace hM := hM.put1 hc hv; clear hv hc)) | go_values | go_skip | go_guarded | go_step | go_upon | (simp only [Int.not_lt, Int.not_le] at *; go_simp))
    go_roundw
    case rel => exact ⟨k + 1, stpM d c T m f, u', L', by omega, by go_num, hM, HMt.out.step HF.out HX.out HDD.out⟩
    case measure => simp [intOf]; omega
end Go.Proofs.Ytonheibhbilhhaa.greet
