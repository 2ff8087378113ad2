/- plugref: DiskDone. -/
import Derived.Test.YtecknicmonhcaaaScsT
import Derived.Test.YtecknicmonhcaaaScsU
import Derived.Test.YtecknicmonhcaaaScsK
namespace Go.Proofs.Ytecknicmonhcaaa.scsi
open Go.RowKit Go.PlainAid Go.Proofs.Ytecknicmonhcaaa.lane Go.Proofs.Ytecknicmonhcaaa.pipe Go.Proofs.Ytecknicmonhcaaa.strike
set_option linter.unusedVariables false
set_option linter.unusedSimpArgs false
set_option maxRecDepth 100000

/-- what a command answers, all of it -/
def outT (d : Dk) (L : List Int) : ByteArray :=
  if L.getD 0 0 = 3 then strOfNums (senL d.s)
  else if L.getD 0 0 = 18 then strOfNums inqL
  else if L.getD 0 0 = 26 then strOfNums modL
  else if L.getD 0 0 = 37 then strOfNums (be4 ((d.b.length : Int) - 1) ++ be4 16)
  else if L.getD 0 0 = 40 then cat ((d.b.drop (lbaL L).toNat).take (cntL L).toNat)
  else ⟨#[]⟩
theorem take_all (l : List Int) (n : Nat) (hb : Byt l) : strOfNums (l.take n) = if n < (strOfNums l).size then (strOfNums l).extract 0 n else strOfNums l := by
  rw [str_size]
  split
  · exact (ext_take l n hb).symm
  · rw [List.take_of_length_le (by omega)]
theorem ans_out (d : Dk) (c : ByteArray) (h : fmC (nums c) = 0) (hs : senR d.s) : ansT d (nums c) = if c.size = 6 ∧ (bt c 4).toNat < (outT d (nums c)).size then (outT d (nums c)).extract 0 (bt c 4).toNat else outT d (nums c) := by
  obtain ⟨h0, hf, hz⟩ := fm_zero c h
  have e0 : (nums c).getD 0 0 = bt c 0 := (bt_nums c 0 h0).symm
  have key : ∀ l : List Int, Byt l → c.size = 6 → strOfNums (l.take ((nums c).getD 4 0).toNat) = if c.size = 6 ∧ (bt c 4).toNat < (strOfNums l).size then (strOfNums l).extract 0 (bt c 4).toNat else strOfNums l := fun l hb h6 => by
    rw [← bt_nums c 4 (by omega), take_all l _ hb]
    by_cases q : (bt c 4).toNat < (strOfNums l).size
    · rw [if_pos q, if_pos ⟨h6, q⟩]
    · rw [if_neg q, if_neg fun r => q r.2]
  unfold ansT outT
  rw [e0]
  by_cases c3 : bt c 0 = 3
  · rw [if_pos c3, if_pos c3]; exact key _ (sen_byt _ hs) (by rw [hz, c3]; rfl)
  rw [if_neg c3, if_neg c3]
  by_cases c18 : bt c 0 = 18
  · rw [if_pos c18, if_pos c18]; exact key _ inq_byt (by rw [hz, c18]; rfl)
  rw [if_neg c18, if_neg c18]
  by_cases c26 : bt c 0 = 26
  · rw [if_pos c26, if_pos c26]; exact key _ mod_byt (by rw [hz, c26]; rfl)
  rw [if_neg c26, if_neg c26]
  by_cases c37 : bt c 0 = 37
  · rw [if_pos c37, if_neg]
    intro q; have := hz; rw [c37] at this; have h2 : (frm 37).length = 9 := rfl; omega
  rw [if_neg c37]
  by_cases c40 : bt c 0 = 40
  · rw [if_pos c40, if_neg]
    intro q; have := hz; rw [c40] at this; have h2 : (frm 40).length = 9 := rfl; omega
  rw [if_neg c40, if_neg]
  intro q
  exact absurd q.2 (Nat.not_lt_zero _)
/-- the rest of all, behind k blocks -/
theorem rest_step {N : List ByteArray} (h : ∀ y ∈ N, y.size = 16) {k : Nat} (hk : k < N.length) : (cat (N.drop k)).extract 0 16 = N[k] ∧ (cat (N.drop k)).extract 16 (cat (N.drop k)).size = cat (N.drop (k + 1)) ∧ 16 ≤ (cat (N.drop k)).size := by
  have hx : N[k].size = 16 := h _ (List.getElem_mem hk)
  have hl : N[k].data.toList.length = 16 := by rw [← size_list]; exact hx
  have hc : (cat (N.drop k)).data.toList = N[k].data.toList ++ (cat (N.drop (k + 1))).data.toList := by
    rw [List.drop_eq_getElem_cons hk, cat_cons]
  refine ⟨?_, ?_, ?_⟩
  · apply ext_list
    rw [ex_list, hc, List.drop_zero, List.take_append_of_le_length (by omega), List.take_of_length_le (by omega)]
  · apply ext_list
    rw [ex_list, hc, List.drop_append_of_le_length (by omega), show List.drop 16 N[k].data.toList = [] from List.drop_eq_nil_of_le (by omega), List.nil_append, List.take_of_length_le]
    have := size_list (cat (N.drop k))
    rw [hc, List.length_append] at this
    omega
  · rw [size_list, hc, List.length_append]; omega
theorem fits_any {n : Nat} {c : ByteArray} {z : Nat} (h : snS n (nums c) z = 0) (ho : opB ((nums c).getD 0 0) = true) : (lbaL (nums c)).toNat + (cntL (nums c)).toNat ≤ n := by
  have hf := sn_fm h
  have l := lba_range c
  have q := cnt_range c
  unfold snS at h
  rw [if_neg (by rw [hf]; decide), if_pos ho] at h
  split at h
  · cases h
  · omega
theorem wr_text {b : List ByteArray} {i n : Nat} {x : ByteArray} (hb : ∀ y ∈ b, y.size = 16) (hx : x.size = 16 * n) (h : i + n ≤ b.length) : (cat b).extract 0 (16 * i) ++ x ++ (cat b).extract (16 * (i + n)) (cat b).size = cat (wrB b i n x) := by
  apply ext_list
  rw [wr_cat hb hx, ByteArray.data_append, Array.toList_append, ByteArray.data_append, Array.toList_append, ex_list, ex_list, List.drop_zero, Nat.sub_zero]
  congr 1
  rw [List.take_of_length_le]
  rw [List.length_drop, ← size_list]
  omega
theorem out_size (d : Dk) (L : List Int) (h : chkC d = 0) : (outT d L).size ≤ 1024 := by
  have hc := (chk_iff d).1 h
  unfold outT
  repeat' split
  · rw [str_size]; simp [senL]
  · rw [str_size]; simp [inqL]
  · rw [str_size]; simp [modL]
  · rw [str_size]; simp [be4]
  · rw [size16 _ fun y hy => hc.2.2.1 y (List.mem_of_mem_drop (List.mem_of_mem_take hy)), List.length_take, List.length_drop]; omega
  · exact Nat.zero_le _
def txLen : Value → Nat
  | .string b => b.size
  | _ => 0
/-- what has been put together so far -/
def Mk2 (w : World) (R Y B : Nat) (l : List ByteArray) (wr : World) (v : Value) : Prop :=
  wr.heap[Y]? = some (dkO v 0) ∧ wr.heap[R]? = some (dkO (.slice none 0 0) 0) ∧ Txs wr B v l ∧ Below w.heap.size w wr ∧ B ≤ wr.heap.size
theorem Mk2.below {w u u' : World} {R Y B : Nat} {l : List ByteArray} {v : Value} (h : Mk2 w R Y B l u v) (hb : Below u.heap.size u u') : Mk2 w R Y B l u' v :=
  ⟨keep h.1 hb, keep h.2.1 hb, h.2.2.1.below hb, bsq h.2.2.2.1 hb, Nat.le_trans h.2.2.2.2 hb.size⟩
theorem Mk2.add {w u : World} {R Y B : Nat} {l : List ByteArray} {v : Value} (h : Mk2 w R Y B l u v) (hw : w.heap.size ≤ Y) (hY : Y < B) (hR : R < B) (hne : R ≠ Y) (hk : l.length ≤ 1000) (F : Nat) (x : ByteArray) (hF : u.heap[F]? = some (.cells #[.string x] 9)) :
    ∃ v' w5, (Builtin.append_ #[43, 43] 43 #[v, .slice (some ⟨F, 0, none⟩) 1 1]).run Try.prog u = .ok v' w5 ∧ w5.heap[Y]? = some (dkO v 0) ∧ Mk2 w R Y B (l ++ [x]) (w5.setCell ⟨Y, 0, none⟩ v') v' := by
  obtain ⟨v', w5, hr, ht, hb⟩ := app_one h.2.2.1 F x hF (by omega) h.2.2.2.2
  have hY5 : w5.heap[Y]? = some (dkO v 0) := (hb.block Y hY).trans h.1
  refine ⟨v', w5, hr, hY5, csetX 0 _ hY5 rfl, ?_, ?_, ?_, ?_⟩
  · rw [heap_setCell_other _ _ _ _ hne]; exact (hb.block R hR).trans h.2.1
  · exact txs_setX ht hY _ _
  · exact (h.2.2.2.1.trans (hb.mono (by omega))).setCell hw _
  · have := Nat.le_trans h.2.2.2.2 hb.size; simpa using this
/-- what plugref's DiskDone answers -/
def DnP (w : World) (d : Dk) (c x : ByteArray) (e : Ending) (w' : World) : Prop :=
  ∃ v, e = .returned (.tuple #[dkV v (doD d c x).s, .string (doT d c x), .int .i64 (doC d c x)]) ∧ Rts w' v (doD d c x).b ∧ Below w.heap.size w w'
set_option maxHeartbeats 8000000 in
theorem done_any (v : Value) (d : Dk) (c x : ByteArray) (w : World) (hp : Rts w v d.b) (hcm : c.size ≤ maxLen) (hx : x.size ≤ maxLen) :
    Calls Try.prog 45 #[dkV v d.s, .string c, .string x] w fun e w' => DnP w d c x e w' := by
  obtain ⟨va, vc, rfl, _, _⟩ := rts_form hp
  obtain ⟨w0, hw0, hX0, hb0⟩ := dk_named w (.slice va d.b.length vc) d.s
  obtain ⟨w1, hw1, hR1, hb1⟩ := dk_named w0 (.slice none 0 0) 0
  have HP0 : Hid (Rts w (.slice va d.b.length vc) d.b) := hp
  have hX1 := keep hX0 hb1
  have hlt0 := (Array.getElem?_eq_some_iff.1 hX0).1
  have hlt1 := (Array.getElem?_eq_some_iff.1 hR1).1
  have HB : Hid (Below w.heap.size w w1 ∧ w1.heap[w.heap.size]? = some (dkO (.slice va d.b.length vc) d.s) ∧ w1.heap[w0.heap.size]? = some (dkO (.slice none 0 0) 0) ∧ Rts w1 (.slice va d.b.length vc) d.b) := ⟨bsq hb0 hb1, hX1, hR1, hp.below (bsq hb0 hb1)⟩
  have HLT : Hid (w.heap.size < w0.heap.size ∧ w0.heap.size < w1.heap.size) := ⟨hlt0, hlt1⟩
  have HDR : Hid (Calls Try.prog 42 #[dkV (.slice va d.b.length vc) d.s] w1 fun e w' => e = .returned (.int .i64 (chkC d)) ∧ Below w1.heap.size w1 w') := diskRight_any _ d.b d.s w1 HB.out.2.2.2
  obtain ⟨⟨_, x0, x1⟩, f0, f1⟩ := boxD hX1
  clear hp hX0 hb0 hR1 hb1 hX1
  unfold DnP
  by_cases hch : chkC d ≠ 0
  · have HDT : Hid (doD d c x = d ∧ doT d c x = ⟨#[]⟩ ∧ doC d c x = chkC d) := ⟨if_pos hch, if_pos hch, if_pos hch⟩
    have e1 : (chkC d != 0) = true := by rw [bne_iff_ne]; exact hch
    generalize chkC d = q at *
    generalize hn : d.b.length = n at *
    clear hch
    go_enter Try.func45, Try.ntmps45
    go_wp2_with fail
    refine HDR.out.mono ?_
    rintro e u ⟨rfl, hb⟩
    have hRu := keep HB.out.2.2.1 hb
    clear x0 x1 f0 f1
    obtain ⟨⟨_, x0, x1⟩, f0, f1⟩ := boxD (keep HB.out.2.1 hb)
    obtain ⟨⟨_, y0, y1⟩, g0, g1⟩ := boxD hRu
    obtain ⟨uf, huf, hXf, hBf, hkf, hsf⟩ := dk_put u w0.heap.size _ _ (.slice va n vc) d.s hRu
    obtain ⟨⟨zf, p0, p1⟩, _⟩ := boxD hXf
    have HE : Hid (Rts uf (.slice va n vc) d.b ∧ Below w.heap.size w uf) := by
      have q := hBf _ _ (by omega) (bsq HB.out.1 hb)
      exact ⟨HP0.out.below q, q⟩
    clear hb hRu hXf hBf hkf hsf HDR HB
    go_wp2_with fail
    try rw [huf]
    exact bodyPost_ret (v := .tuple #[dkV (.slice va n vc) d.s, .string ⟨#[]⟩, .int .i64 q]) (by simp [results, Try.results45, go_sem, zf, p0, p1]) rfl (by rw [HDT.out.1, HDT.out.2.1, HDT.out.2.2]; exact ⟨_, rfl, HE.out⟩)
  have hch : chkC d = 0 := Classical.not_not.1 hch
  rw [hch] at HDR
  obtain ⟨hn1, hn2, h16, hsr⟩ := (chk_iff d).1 hch
  obtain ⟨Z, hZ⟩ : ∃ Z, snS d.b.length (nums c) x.size = Z := ⟨_, rfl⟩
  have hz0 : Z = 0 ∨ Z = 32 ∨ Z = 33 ∨ Z = 36 := by rw [← hZ]; exact sn_code _ _ _
  have HSE : Hid (∀ u, Rts u (.slice va d.b.length vc) d.b → Calls Try.prog 63 #[dkV (.slice va d.b.length vc) d.s, .string c, .string x] u fun e w' => e = .returned (.tuple #[.int .i64 Z, .int .i64 (seA d.b.length c x.size), .int .i64 (seB d.b.length c x.size)]) ∧ Below u.heap.size u w') := fun u h => by
    have := sensed_any _ d.b d.s c x u h hcm hx hn2
    rw [hZ] at this
    exact this
  have hnn : ¬ chkC d ≠ 0 := by rw [hch]; decide
  by_cases hzn : Z ≠ 0
  · have HDT : Hid (doD d c x = ⟨d.b, Z⟩ ∧ doT d c x = ⟨#[]⟩ ∧ doC d c x = 14) := by
      unfold doD doT doC
      rw [hZ, if_neg hnn, if_neg hnn, if_neg hnn, if_pos hzn, if_pos hzn, if_pos hzn]
      exact ⟨rfl, rfl, rfl⟩
    have e1 : Z > 0 := by omega
    generalize hn : d.b.length = n at *
    generalize seA n c x.size = sa at *
    generalize seB n c x.size = sb at *
    clear hch hnn hzn hz0 hZ h16 hsr hn1 hn2 hn
    go_enter Try.func45, Try.ntmps45
    go_wp2_with fail
    refine HDR.out.mono ?_
    rintro e u ⟨rfl, hb⟩
    replace HB : Hid (Below w.heap.size w u ∧ u.heap[w.heap.size]? = some (dkO (.slice va n vc) d.s) ∧ u.heap[w0.heap.size]? = some (dkO (.slice none 0 0) 0)) := ⟨bsq HB.out.1 hb, keep HB.out.2.1 hb, keep HB.out.2.2.1 hb⟩
    clear x0 x1 f0 f1 hb HDR
    obtain ⟨⟨_, x0, x1⟩, f0, f1⟩ := boxD HB.out.2.1
    go_wp2_with fail
    refine (HSE.out _ (HP0.out.below HB.out.1)).mono ?_
    rintro e u2 ⟨rfl, hb⟩
    replace HB : Hid (Below w.heap.size w u2 ∧ u2.heap[w.heap.size]? = some (dkO (.slice va n vc) d.s) ∧ u2.heap[w0.heap.size]? = some (dkO (.slice none 0 0) 0)) := ⟨bsq HB.out.1 hb, keep HB.out.2.1 hb, keep HB.out.2.2 hb⟩
    clear x0 x1 f0 f1 hb HSE
    obtain ⟨⟨_, x0, x1⟩, f0, f1⟩ := boxD HB.out.2.1
    obtain ⟨⟨_, y0, y1⟩, g0, g1⟩ := boxD HB.out.2.2
    obtain ⟨uf, huf, hXf, hBf, hkf, hsf⟩ := dk_put u2 w0.heap.size _ _ (.slice va n vc) Z HB.out.2.2
    obtain ⟨⟨zf, p0, p1⟩, _⟩ := boxD hXf
    have HE : Hid (Rts uf (.slice va n vc) d.b ∧ Below w.heap.size w uf) := by
      have q := hBf _ _ (Nat.le_of_lt HLT.out.1) HB.out.1
      exact ⟨HP0.out.below q, q⟩
    clear hXf hBf hkf hsf HB
    go_wp2_with fail
    try rw [huf]
    exact bodyPost_ret (v := .tuple #[dkV (.slice va n vc) Z, .string ⟨#[]⟩, .int .i64 14]) (by simp [results, Try.results45, go_sem, zf, p0, p1]) rfl (by rw [HDT.out.1, HDT.out.2.1, HDT.out.2.2]; exact ⟨_, rfl, HE.out⟩)
  have hZ0 : Z = 0 := Classical.not_not.1 hzn
  subst hZ0
  have hfm := sn_fm hZ
  obtain ⟨hc0, hfn, hcs⟩ := fm_zero c hfm
  have HDT : Hid (doD d c x = ⟨newB d.b (nums c) x, 0⟩ ∧ doT d c x = (if c.size = 6 ∧ (bt c 4).toNat < (outT d (nums c)).size then (outT d (nums c)).extract 0 (bt c 4).toNat else outT d (nums c)) ∧ doC d c x = 0) := by
    have hdc : doC d c x = 0 := by unfold doC; rw [if_neg hnn, hZ]; rfl
    have := do_done hdc
    exact ⟨this.1, this.2.trans (ans_out d c hfm hsr), hdc⟩
  have hNR := new_right hch hZ
  have HJ : Hid (∀ u, Below w.heap.size w u → Calls Try.prog 64 #[.slice va d.b.length vc, .string ⟨#[]⟩] u fun e w' => e = .returned (.string (cat d.b)) ∧ Below u.heap.size u w') := fun u hb => by
    have h1 := size16 d.b h16
    rw [cat_size] at h1
    exact join_any _ d.b u (HP0.out.below hb) (by omega) (by omega)
  have hbt := get_bt c
  go_enter Try.func45, Try.ntmps45
  go_wp2_with fail
  refine HDR.out.mono ?_
  rintro e u ⟨rfl, hb⟩
  replace HB : Hid (Below w.heap.size w u ∧ u.heap[w.heap.size]? = some (dkO (.slice va d.b.length vc) d.s) ∧ u.heap[w0.heap.size]? = some (dkO (.slice none 0 0) 0)) := ⟨bsq HB.out.1 hb, keep HB.out.2.1 hb, keep HB.out.2.2.1 hb⟩
  clear x0 x1 f0 f1 hb HDR
  obtain ⟨⟨_, x0, x1⟩, f0, f1⟩ := boxD HB.out.2.1
  go_wp2_with fail
  refine (HSE.out _ (HP0.out.below HB.out.1)).mono ?_
  rintro e u2 ⟨rfl, hb⟩
  replace HB : Hid (Below w.heap.size w u2 ∧ u2.heap[w.heap.size]? = some (dkO (.slice va d.b.length vc) d.s) ∧ u2.heap[w0.heap.size]? = some (dkO (.slice none 0 0) 0)) := ⟨bsq HB.out.1 hb, keep HB.out.2.1 hb, keep HB.out.2.2 hb⟩
  clear x0 x1 f0 f1 hb HSE
  obtain ⟨⟨_, x0, x1⟩, f0, f1⟩ := boxD HB.out.2.1
  go_wp2_with fail
  refine (HJ.out _ HB.out.1).mono ?_
  rintro e u3 ⟨rfl, hb⟩
  replace HB : Hid (Below w.heap.size w u3 ∧ u3.heap[w.heap.size]? = some (dkO (.slice va d.b.length vc) d.s) ∧ u3.heap[w0.heap.size]? = some (dkO (.slice none 0 0) 0)) := ⟨bsq HB.out.1 hb, keep HB.out.2.1 hb, keep HB.out.2.2 hb⟩
  clear x0 x1 f0 f1 hb HJ
  go_upto_block 0 with (fail)
  go_cut [13, 14, 15, 41] from 42 (fun av ov kv cv wx => av = .string (cat (newB d.b (nums c) x)) ∧ ov = .string (outT d (nums c)) ∧ Hid (Below w.heap.size w wx ∧ wx.heap[w0.heap.size]? = some (dkO (.slice none 0 0) 0)))
  case first =>
    have hop0 : (nums c).getD 0 0 = bt c 0 := (bt_nums c 0 hc0).symm
    obtain ⟨⟨_, x0, x1⟩, f0, f1⟩ := boxD HB.out.2.1
    rcases frm_op _ hfn with e | e | e | e | e | e
    · have hN : newB d.b (nums c) x = d.b := by unfold newB; rw [hop0, e]; rfl
      have hO : outT d (nums c) = ⟨#[]⟩ := by unfold outT; rw [hop0, e]; rfl
      have HNO : Hid (cat d.b = cat (newB d.b (nums c) x) ∧ _ = outT d (nums c)) := ⟨by rw [hN], hO.symm⟩
      clear hN hO
      go_wp2_with fail
      go_meet
      case rel => exact ⟨by rw [← HNO.out.1], by rw [← HNO.out.2], HB.out.1, HB.out.2.2⟩
    · have hN : newB d.b (nums c) x = d.b := by unfold newB; rw [hop0, e]; rfl
      have HSR : Hid (senR d.s) := hsr
      have hs0 : 0 ≤ d.s ∧ d.s ≤ 36 := by rcases hsr with q | q | q | q <;> omega
      obtain ⟨hs0, hs36⟩ := hs0
      clear hsr
      · have hm0 : 0 ≤ min d.s 5 := by rw [Int.min_def]; split <;> omega
        have hm1 : min d.s 5 ≤ 5 := by rw [Int.min_def]; split <;> omega
        have HKY : Hid ((min d.s 5 : Int) = if d.s = 0 then 0 else 5) := by
          show _ = _
          rcases HSR.out with q | q | q | q <;> (rw [q]; rfl)
        have hO : outT d (nums c) = (⟨#[112, 0]⟩ : ByteArray) ++ strOfNums [min d.s 5] ++ ⟨#[0, 0, 0, 0, 10, 0, 0, 0, 0]⟩ ++ strOfNums [d.s] ++ ⟨#[0, 0, 0, 0, 0]⟩ := by
          have e1 : (⟨#[112, 0]⟩ : ByteArray) = strOfNums [112, 0] := rfl
          have e2 : (⟨#[0, 0, 0, 0, 10, 0, 0, 0, 0]⟩ : ByteArray) = strOfNums [0, 0, 0, 0, 10, 0, 0, 0, 0] := rfl
          have e3 : (⟨#[0, 0, 0, 0, 0]⟩ : ByteArray) = strOfNums [0, 0, 0, 0, 0] := rfl
          rw [e1, e2, e3, ← str_append, ← str_append, ← str_append, ← str_append, show ([min d.s 5] : List Int) = [if d.s = 0 then 0 else 5] by rw [HKY.out]]
          unfold outT
          rw [hop0, e]
          rfl
        have HNO : Hid (cat d.b = cat (newB d.b (nums c) x) ∧ _ = outT d (nums c)) := ⟨by rw [hN], hO.symm⟩
        clear hN hO
        have HH1 : Hid (∀ u, Calls Try.prog 65 #[.int .i64 (min d.s 5), .int .i64 1] u fun e w' => e = .returned (.string (strOfNums [min d.s 5])) ∧ Below u.heap.size u w') := fun u => by
          have := high_any (min d.s 5) 1 (by omega) (by omega) (by omega) u
          rw [hi_one (min d.s 5) (by omega) (by omega)] at this
          exact this
        have HH2 : Hid (∀ u, Calls Try.prog 65 #[.int .i64 d.s, .int .i64 1] u fun e w' => e = .returned (.string (strOfNums [d.s])) ∧ Below u.heap.size u w') := fun u => by
          have := high_any d.s 1 (by omega) (by omega) (by omega) u
          rw [hi_one d.s (by omega) (by omega)] at this
          exact this
        obtain ⟨k2, hk2⟩ : ∃ k, strOfNums [d.s] = k := ⟨_, rfl⟩
        have z2 : k2.size = 1 := by rw [← hk2]; exact str_size _
        obtain ⟨k1, hk1⟩ : ∃ k, strOfNums [(min d.s 5 : Int)] = k := ⟨_, rfl⟩
        have z1 : k1.size = 1 := by rw [← hk1]; exact str_size _
        rw [hk2] at HH2
        rw [hk1] at HH1
        rw [hk1, hk2] at HNO
        clear hk1 hk2 HKY
        have HX : Hid (∀ W, Below u3.heap.size u3 W → W.heap[w.heap.size]? = some (dkO (.slice va d.b.length vc) d.s)) := fun W hW => keep HB.out.2.1 hW
        go_upto_region 12 with (fail)
        refine wp_abs (fun a0 => a0.tmps.size = 123 ∧ (∀ h, a0.tmps[3]'h = .pointer (some ⟨w.heap.size, 0, none⟩)) ∧ (∀ h, a0.tmps[15]'h = .int .i64 (min d.s 5))) ⟨rfl, fun _ => rfl, fun _ => rfl⟩ ?_
        rintro a0 ⟨hz3, s3, s15⟩ ha0
        refine wp_region_held (S := fun W => Below u3.heap.size u3 W) (by kernel_rfl) ?_
        have hS0 : Below u3.heap.size u3 u3.drew := (Below.refl _ _).drew
        refine h_take (i := 0) (.int .i64 (min d.s 5)) rfl (by kernel_rfl) (by kernel_rfl) (by kernel_rfl) (fun _ _ _ h => h) rfl hS0 (fun W hW => by simp [execOp, go_sem, Act.put, hz3, s3, s15]) ?_
        refine h_take (i := 4) (.pointer (some ⟨w.heap.size, 1, none⟩)) rfl (by kernel_rfl) (by kernel_rfl) (by kernel_rfl) (fun _ _ _ h => h) rfl hS0 (fun W hW => by simp [execOp, go_sem, Act.put, hz3, s3, s15]) ?_
        refine h_take (i := 5) (.int .i64 d.s) rfl (by kernel_rfl) (by kernel_rfl) (by kernel_rfl) (fun _ _ _ h => h) rfl hS0 (fun W hW => by obtain ⟨⟨zb, x0, x1⟩, _⟩ := boxD (HX.out W hW); simp [execOp, go_sem, Act.put, hz3, s3, s15, x0, x1]) ?_
        refine h_call (i := 1) 65 #[.int .i64 (min d.s 5), .int .i64 1] rfl (by kernel_rfl) rfl (by simp [execOp, go_sem, Act.put, hz3, s3, s15]) ((HH1.out _).mono ?_)
        rintro e' u4 ⟨rfl, hb4⟩
        have hS1 : Below u3.heap.size u3 u4 := bsq hS0 hb4
        refine ⟨_, rfl, hS1, ?_⟩
        refine h_take (i := 2) (.string ((⟨#[112, 0]⟩ : ByteArray) ++ k1)) rfl (by kernel_rfl) (by kernel_rfl) (by kernel_rfl) (fun _ _ _ h => h) rfl hS1 (fun W hW => by simp [execOp, go_sem, Act.put, hz3, s3, s15, z1]) ?_
        refine h_take (i := 3) (.string ((⟨#[112, 0]⟩ : ByteArray) ++ k1 ++ ⟨#[0, 0, 0, 0, 10, 0, 0, 0, 0]⟩)) rfl (by kernel_rfl) (by kernel_rfl) (by kernel_rfl) (fun _ _ _ h => h) rfl hS1 (fun W hW => by simp [execOp, go_sem, Act.put, hz3, s3, s15, z1]) ?_
        refine h_call (i := 6) 65 #[.int .i64 d.s, .int .i64 1] rfl (by kernel_rfl) rfl (by simp [execOp, go_sem, Act.put, hz3, s3, s15]) ((HH2.out _).mono ?_)
        rintro e' u5 ⟨rfl, hb5'⟩
        have hS2 : Below u3.heap.size u3 u5 := bsq hS1 hb5'
        refine ⟨_, rfl, hS2, ?_⟩
        refine h_take (i := 7) (.string ((⟨#[112, 0]⟩ : ByteArray) ++ k1 ++ ⟨#[0, 0, 0, 0, 10, 0, 0, 0, 0]⟩ ++ k2)) rfl (by kernel_rfl) (by kernel_rfl) (by kernel_rfl) (fun _ _ _ h => h) rfl hS2 (fun W hW => by simp [execOp, go_sem, Act.put, hz3, s3, s15, z1, z2]) ?_
        refine h_take (i := 8) (.string ((⟨#[112, 0]⟩ : ByteArray) ++ k1 ++ ⟨#[0, 0, 0, 0, 10, 0, 0, 0, 0]⟩ ++ k2 ++ ⟨#[0, 0, 0, 0, 0]⟩)) rfl (by kernel_rfl) (by kernel_rfl) (by kernel_rfl) (fun _ _ _ h => h) rfl hS2 (fun W hW => by simp [execOp, go_sem, Act.put, hz3, s3, s15, z1, z2]) ?_
        refine h_take (i := 9) (.string ((⟨#[112, 0]⟩ : ByteArray) ++ k1 ++ ⟨#[0, 0, 0, 0, 10, 0, 0, 0, 0]⟩ ++ k2 ++ ⟨#[0, 0, 0, 0, 0]⟩)) rfl (by kernel_rfl) (by kernel_rfl) (by kernel_rfl) (fun _ _ _ h => h) rfl hS2 (fun W hW => by simp [execOp, go_sem, Act.put, hz3, s3, s15]) ?_
        refine wpAnyH_done (by kernel_rfl) ?_ _
        have HBE : Hid (Below w.heap.size w u5 ∧ u5.heap[w0.heap.size]? = some (dkO (.slice none 0 0) 0)) := ⟨bsq HB.out.1 hS2, keep HB.out.2.2 hS2⟩
        subst ha0
        clear hz3 s3 s15 hS0 hS1 hS2 hb4 hb5' HX HH1 HH2 HB
        go_simp
        go_wp2_with fail
        go_meet
        case rel => exact ⟨by rw [← HNO.out.1], by rw [← HNO.out.2], HBE.out⟩
    · have hN : newB d.b (nums c) x = d.b := by unfold newB; rw [hop0, e]; rfl
      have hO : outT d (nums c) = ⟨#[0, 128, 4, 2, 31, 0, 0, 0, 112, 108, 117, 103, 116, 114, 101, 101, 100, 105, 115, 107, 32, 32, 32, 32, 32, 32, 32, 32, 32, 32, 32, 32, 49, 32, 32, 32]⟩ := by unfold outT; rw [hop0, e]; rfl
      have HNO : Hid (cat d.b = cat (newB d.b (nums c) x) ∧ _ = outT d (nums c)) := ⟨by rw [hN], hO.symm⟩
      clear hN hO
      go_wp2_with fail
      go_meet
      case rel => exact ⟨by rw [← HNO.out.1], by rw [← HNO.out.2], HB.out.1, HB.out.2.2⟩
    · have hN : newB d.b (nums c) x = d.b := by unfold newB; rw [hop0, e]; rfl
      have hO : outT d (nums c) = ⟨#[3, 0, 0, 0]⟩ := by unfold outT; rw [hop0, e]; rfl
      have HNO : Hid (cat d.b = cat (newB d.b (nums c) x) ∧ _ = outT d (nums c)) := ⟨by rw [hN], hO.symm⟩
      clear hN hO
      go_wp2_with fail
      go_meet
      case rel => exact ⟨by rw [← HNO.out.1], by rw [← HNO.out.2], HB.out.1, HB.out.2.2⟩
    · have hN : newB d.b (nums c) x = d.b := by unfold newB; rw [hop0, e]; rfl
      have hO : outT d (nums c) = strOfNums (be4 ((d.b.length : Int) - 1)) ++ strOfNums (be4 16) := by unfold outT; rw [hop0, e, ← str_append]; rfl
      have HNO : Hid (cat d.b = cat (newB d.b (nums c) x) ∧ _ = outT d (nums c)) := ⟨by rw [hN], hO.symm⟩
      clear hN hO
      have HH1 : Hid (∀ u, Calls Try.prog 65 #[.int .i64 ((d.b.length : Int) - 1), .int .i64 4] u fun e w' => e = .returned (.string (strOfNums (be4 ((d.b.length : Int) - 1)))) ∧ Below u.heap.size u w') := fun u => by
        have := high_any ((d.b.length : Int) - 1) 4 (by omega) (by omega) (by omega) u
        rw [hi_four] at this
        exact this
      have HH2 : Hid (∀ u, Calls Try.prog 65 #[.int .i64 16, .int .i64 4] u fun e w' => e = .returned (.string (strOfNums (be4 16))) ∧ Below u.heap.size u w') := fun u => by
        have := high_any 16 4 (by omega) (by omega) (by omega) u
        rw [hi_four] at this
        exact this
      have z1 : (strOfNums (be4 ((d.b.length : Int) - 1))).size = 4 := str_size _
      have z2 : (strOfNums (be4 16)).size = 4 := str_size _
      generalize strOfNums (be4 ((d.b.length : Int) - 1)) = k1 at HH1 z1 HNO
      generalize strOfNums (be4 16) = k2 at HH2 z2 HNO
      go_wp2_with fail
      refine (HH1.out _).mono ?_
      rintro e' u4 ⟨rfl, hb⟩
      replace HB : Hid (Below w.heap.size w u4 ∧ u4.heap[w.heap.size]? = some (dkO (.slice va d.b.length vc) d.s) ∧ u4.heap[w0.heap.size]? = some (dkO (.slice none 0 0) 0)) := ⟨bsq HB.out.1 hb, keep HB.out.2.1 hb, keep HB.out.2.2 hb⟩
      clear hb HH1
      go_wp2_with fail
      refine (HH2.out _).mono ?_
      rintro e' u5 ⟨rfl, hb⟩
      replace HB : Hid (Below w.heap.size w u5 ∧ u5.heap[w.heap.size]? = some (dkO (.slice va d.b.length vc) d.s) ∧ u5.heap[w0.heap.size]? = some (dkO (.slice none 0 0) 0)) := ⟨bsq HB.out.1 hb, keep HB.out.2.1 hb, keep HB.out.2.2 hb⟩
      clear hb HH2
      go_wp2_with fail
      go_meet
      case rel => exact ⟨by rw [← HNO.out.1], by rw [← HNO.out.2], HB.out.1, HB.out.2.2⟩
    · have hsa : seA d.b.length c x.size = lbaL (nums c) := if_pos ⟨hZ, by rw [hop0]; exact e⟩
      have hsb : seB d.b.length c x.size = cntL (nums c) := if_pos ⟨hZ, by rw [hop0]; exact e⟩
      have hfit := fits_any hZ (by rw [hop0]; exact e)
      obtain ⟨l0, l1⟩ := lba_range c
      obtain ⟨q0, q1⟩ := cnt_range c
      obtain ⟨i, hi⟩ := Int.eq_ofNat_of_zero_le l0
      obtain ⟨k, hk⟩ := Int.eq_ofNat_of_zero_le q0
      rw [hi] at hsa
      rw [hk] at hsb
      have hsz := size16 d.b h16
      have hfx := fun q : bt c 0 = 42 => do_fits hZ (by rw [hop0]; exact q)
      rw [hi, hk, Int.toNat_natCast, Int.toNat_natCast] at hfit
      rw [hi, hk, Int.toNat_natCast, Int.toNat_natCast] at hfx
      have HI : Hid (lbaL (nums c) = (i : Int) ∧ cntL (nums c) = (k : Int) ∧ seA d.b.length c x.size = (i : Int) ∧ seB d.b.length c x.size = (k : Int)) := ⟨hi, hk, hsa, hsb⟩
      have A0 : 0 ≤ seA d.b.length c x.size := by rw [hsa]; omega
      have A1 : seA d.b.length c x.size ≤ 64 := by rw [hsa]; omega
      have B0 : 0 ≤ seB d.b.length c x.size := by rw [hsb]; omega
      have B1 : seB d.b.length c x.size ≤ 64 := by rw [hsb]; omega
      clear l0 l1 q0 q1 hi hk hsa hsb
      rcases (op_iff _).1 e with e | e | e
      · have hN : newB d.b (nums c) x = d.b := by unfold newB; rw [hop0, e]; rfl
        have hO : outT d (nums c) = (cat d.b).extract (16 * i) (16 * (i + k)) := by
          rw [cat_part d.b h16]
          unfold outT; rw [hop0, e, HI.out.1, HI.out.2.1, Int.toNat_natCast, Int.toNat_natCast]; rfl
        have HNO : Hid (cat d.b = cat (newB d.b (nums c) x) ∧ _ = outT d (nums c)) := ⟨by rw [hN], hO.symm⟩
        clear hN hO
        have hsl : ∀ W, (Instr.slice 9 (.string (cat d.b)) (some (.int .i64 (16 * seA d.b.length c x.size))) (some (.int .i64 (16 * (seA d.b.length c x.size + seB d.b.length c x.size)))) none).run Try.prog W = .ok (.string ((cat d.b).extract (16 * i) (16 * (i + k)))) W := fun W => by
          rw [HI.out.2.2.1, HI.out.2.2.2, run_part _ _ _ (by omega) (by omega) (by omega)]
          congr 3 <;> omega
        generalize (cat d.b).extract (16 * i) (16 * (i + k)) = o at hsl HNO
        clear hfx
        go_wp2_with fail
        go_meet
        case rel => exact ⟨by rw [← HNO.out.1], by rw [← HNO.out.2], HB.out.1, HB.out.2.2⟩
      · have hxs : x.size = 16 * k := (hfx e).2
        have hO : outT d (nums c) = ⟨#[]⟩ := by unfold outT; rw [hop0, e]; rfl
        have hW : cat (newB d.b (nums c) x) = (cat d.b).extract 0 (16 * i) ++ x ++ (cat d.b).extract (16 * (i + k)) (cat d.b).size := by
          rw [wr_text h16 hxs hfit]
          unfold newB; rw [hop0, e, HI.out.1, HI.out.2.1, Int.toNat_natCast, Int.toNat_natCast]; rfl
        have HNO : Hid (_ = cat (newB d.b (nums c) x) ∧ _ = outT d (nums c)) := ⟨hW.symm, hO.symm⟩
        clear hO hW
        have hs1 : ∀ W, (Instr.slice 9 (.string (cat d.b)) none (some (.int .i64 (16 * seA d.b.length c x.size))) none).run Try.prog W = .ok (.string ((cat d.b).extract 0 (16 * i))) W := fun W => by
          rw [HI.out.2.2.1]
          have := run_slice_string_h (P := Try.prog) (w := W) 9 (cat d.b) Try.underlying9 .i64 (16 * (i : Int)) (by omega) (by omega)
          rw [this]
          congr 3 <;> omega
        have hs2 : ∀ W, (Instr.slice 9 (.string (cat d.b)) (some (.int .i64 (16 * (seA d.b.length c x.size + seB d.b.length c x.size)))) none none).run Try.prog W = .ok (.string ((cat d.b).extract (16 * (i + k)) (cat d.b).size)) W := fun W => by
          rw [HI.out.2.2.1, HI.out.2.2.2]
          have := run_slice_string_l (P := Try.prog) (w := W) 9 (cat d.b) Try.underlying9 .i64 (16 * ((i : Int) + (k : Int))) (by omega) (by omega)
          rw [this]
          congr 3 <;> omega
        have t1 : ((cat d.b).extract 0 (16 * i)).size ≤ 1024 := by rw [ByteArray.size_extract]; omega
        have t2 : ((cat d.b).extract (16 * (i + k)) (cat d.b).size).size ≤ 1024 := by rw [ByteArray.size_extract]; omega
        have t3 : x.size ≤ 1024 := by omega
        generalize (cat d.b).extract 0 (16 * i) = o1 at hs1 t1 HNO
        generalize (cat d.b).extract (16 * (i + k)) (cat d.b).size = o2 at hs2 t2 HNO
        clear hfx hxs
        have HBD : Hid (∀ m, Below w.heap.size w (u3.drewN m) ∧ (u3.drewN m).heap[w0.heap.size]? = some (dkO (.slice none 0 0) 0)) := fun m => ⟨below_drewN HB.out.1 m, HB.out.2.2⟩
        go_wp2_with fail
        go_quiet (fail)
        go_wp2_with fail
        go_meet
        case rel => exact ⟨by rw [← HNO.out.1], by rw [← HNO.out.2], HBD.out _⟩
      · have hN : newB d.b (nums c) x = d.b := by unfold newB; rw [hop0, e]; rfl
        have hO : outT d (nums c) = ⟨#[]⟩ := by unfold outT; rw [hop0, e]; rfl
        have HNO : Hid (cat d.b = cat (newB d.b (nums c) x) ∧ _ = outT d (nums c)) := ⟨by rw [hN], hO.symm⟩
        clear hN hO
        clear hfx
        go_wp2_with fail
        go_meet
        case rel => exact ⟨by rw [← HNO.out.1], by rw [← HNO.out.2], HB.out.1, HB.out.2.2⟩
  case rest =>
    obtain ⟨rfl, rfl, HC⟩ := hcut
    have hO1024 := out_size d (nums c) hch
    obtain ⟨N, hN⟩ : ∃ N, newB d.b (nums c) x = N := ⟨_, rfl⟩
    obtain ⟨O, hO⟩ : ∃ O, outT d (nums c) = O := ⟨_, rfl⟩
    rw [hN, hO] at HDT
    rw [hO] at hO1024
    rw [hN] at hNR
    rw [hN, hO]
    have HN16 : Hid (∀ y ∈ N, y.size = 16) := hNR.2
    obtain ⟨n, hn⟩ : ∃ n, N.length = n := ⟨_, rfl⟩
    have HNL : Hid (N.length = n) := hn
    have hn64 : n ≤ 64 := by rw [← hn, hNR.1]; exact hn2
    obtain ⟨q, hq⟩ : ∃ q : Nat, bt c 4 = (q : Int) := ⟨(bt c 4).toNat, by have := bt_range c 4; omega⟩
    have hq2 : q ≤ 255 := by have := bt_range c 4; omega
    rw [hq, Int.toNat_natCast] at HDT
    have hlen6 : c.size = 6 → 4 < c.size := fun h => by omega
    clear hNR hn hch hnn hn1 hn2 h16 hsr hZ hz0 hzn hfm hfn hO hN hcs
    unfold maxLen at hcm hx
    by_cases h6 : c.size = 6
    · have h4 : 4 < c.size := hlen6 h6
      have e6 : ((c.size : Int) == 6) = true := by rw [h6]; rfl
      by_cases hqo : q < O.size
      · rw [if_pos ⟨h6, hqo⟩] at HDT
        have hgt : (O.size : Int) > (q : Int) := by omega
        have hsl : ∀ W, (Instr.slice 9 (.string O) none (some (.int .u8 (q : Int))) none).run Try.prog W = .ok (.string (O.extract 0 q)) W := fun W => by
          have := run_slice_string_h (P := Try.prog) (w := W) 9 O Try.underlying9 .u8 (q : Int) (by omega) (by omega)
          rw [this, Int.toNat_natCast]
        clear hqo h6 hlen6
        obtain ⟨wn, hwn, hYn, hbn⟩ := dk_named wc (.slice none 0 0) 0
        obtain ⟨wf, hwf, hXf, hBf, hkf, hsf⟩ := dk_put wn wc.heap.size _ _ (.slice none 0 0) 0 hYn
        have hlc := (Array.getElem?_eq_some_iff.1 HC.out.2).1
        have hln := (Array.getElem?_eq_some_iff.1 hYn).1
        have HM : Hid (Mk2 w w0.heap.size wc.heap.size wn.heap.size [] wf (.slice none 0 0)) := ⟨hXf, (hkf _ (by omega)).trans (keep HC.out.2 hbn), Txs.nil _ _, hBf _ _ HC.out.1.size (bsq HC.out.1 hbn), by omega⟩
        have HLZ : Hid (w.heap.size < w0.heap.size ∧ w.heap.size ≤ wc.heap.size ∧ w0.heap.size < wc.heap.size ∧ wc.heap.size < wn.heap.size) := ⟨HLT.out.1, HC.out.1.size, hlc, hln⟩
        obtain ⟨⟨_, y0, y1⟩, g0, g1⟩ := boxD hYn
        clear hYn hbn hXf hBf hkf hsf
        go_wp2_with fail
        try rw [hwf]
        clear hwf hwn y0 y1 g0 g1
        go_loopw [13] (fun av wr => ∃ (k : Nat) (v : Value), k ≤ n ∧ av = .string (cat (N.drop k)) ∧ Hid (Mk2 w w0.heap.size wc.heap.size wn.heap.size (N.take k) wr v)) (fun av _ => txLen av)
        case atStart => exact ⟨0, _, Nat.zero_le _, rfl, HM.out⟩
        case round =>
          obtain ⟨k, v, hk, rfl, HR⟩ := hrel
          clear HM
          obtain ⟨na, nc, rfl, _, _⟩ := HR.out.2.2.1.form
          obtain ⟨⟨zy, y0, y1⟩, g0, g1⟩ := boxD HR.out.1
          obtain ⟨⟨zr, x0, x1⟩, f0, f1⟩ := boxD HR.out.2.1
          by_cases hlt : ¬ k < n
          · have hkn : k = n := by omega
            have hce : cat (N.drop k) = ⟨#[]⟩ := by rw [List.drop_eq_nil_of_le (by rw [HNL.out]; omega)]; rfl
            have hte : N.take k = N := List.take_of_length_le (by rw [HNL.out]; omega)
            obtain ⟨ln, hln2⟩ : ∃ ln, (N.take k).length = ln := ⟨_, rfl⟩
            rw [hln2] at y0 HR
            obtain ⟨uf, huf, hXf, hBf, hkf, hsf⟩ := dk_put wr w0.heap.size _ _ (.slice na ln nc) 0 HR.out.2.1
            obtain ⟨⟨zf, p0, p1⟩, _⟩ := boxD hXf
            have HE : Hid (Rts uf (.slice na ln nc) N ∧ Below w.heap.size w uf) := by
              have h := HR.out
              have hz := HLZ.out
              refine ⟨?_, hBf _ _ (by omega) h.2.2.2.1⟩
              have q := h.2.2.1
              rw [hte] at q
              rw [← huf]
              exact (txs_setX (txs_setX q (by omega) _ _) (by omega) _ _).rts
            rw [hce]
            clear hXf hBf hkf hsf HR hce hte hln2 hkn
            go_wp2_with fail
            try rw [huf]
            exact bodyPost_ret (v := .tuple #[dkV (.slice na ln nc) 0, .string (O.extract 0 q), .int .i64 0]) (by simp [results, Try.results45, go_sem, zf, p0, p1]) rfl (by rw [HDT.out.1, HDT.out.2.1, HDT.out.2.2]; exact ⟨_, rfl, HE.out⟩)
          · have hlt : k < n := Classical.not_not.1 hlt
            obtain ⟨r1, r2, r3⟩ := rest_step HN16.out (k := k) (by rw [HNL.out]; exact hlt)
            obtain ⟨al, hal⟩ : ∃ al, cat (N.drop k) = al := ⟨_, rfl⟩
            obtain ⟨y, hy⟩ : ∃ y, N[k]'(by rw [HNL.out]; exact hlt) = y := ⟨_, rfl⟩
            obtain ⟨al2, hal2⟩ : ∃ al, cat (N.drop (k + 1)) = al := ⟨_, rfl⟩
            have hab : al.size ≤ 1024 := by
              rw [← hal, size16 _ fun y hy => HN16.out y (List.mem_of_mem_drop hy), List.length_drop, HNL.out]; omega
            have hab2 : al2.size < al.size := by
              rw [← hal, ← hal2, size16 _ fun y hy => HN16.out y (List.mem_of_mem_drop hy), size16 _ fun y hy => HN16.out y (List.mem_of_mem_drop hy), List.length_drop, List.length_drop, HNL.out]; omega
            rw [hy, hal] at r1
            rw [hal, hal2] at r2
            rw [hal] at r3 ⊢
            have HA2 : Hid (cat (N.drop (k + 1)) = al2) := hal2
            have hfull := str_full al (by omega)
            have hsl1 : ∀ W, (Instr.slice 9 (.string al) none (some (.int .i64 16)) none).run Try.prog W = .ok (.string y) W := fun W => by
              have := run_slice_string_h (P := Try.prog) (w := W) 9 al Try.underlying9 .i64 16 (by omega) (by omega)
              rw [this, ← r1]; rfl
            have hsl2 : ∀ W, (Instr.slice 9 (.string al) (some (.int .i64 16)) none none).run Try.prog W = .ok (.string al2) W := fun W => by
              have := run_slice_string_l (P := Try.prog) (w := W) 9 al Try.underlying9 .i64 16 (by omega) (by omega)
              rw [this, ← r2]; rfl
            have HTK : Hid (N.take k ++ [y] = N.take (k + 1)) := by
              show _ = _
              rw [← hy]; exact (List.take_succ_eq_append_getElem (by rw [HNL.out]; exact hlt)).symm
            have HLN : Hid ((N.take k).length = k) := by show _ = _; rw [List.length_take, HNL.out]; omega
            obtain ⟨ln, hln2⟩ : ∃ ln, (N.take k).length = ln := ⟨_, rfl⟩
            rw [hln2] at y0 HR
            have hz := HLZ.out
            obtain ⟨hz1, hz2, hz3', hz4⟩ := hz
            have hlo : True := trivial
            clear hal hal2 hy r1 r2 hln2 hz3'
            have hz5 := HLZ.out.2.2.1
            go_upto_region 28 with (fail)
            refine wp_abs (fun a0 => a0.tmps.size = 123 ∧ (∀ h, a0.tmps[16]'h = .pointer (some ⟨wc.heap.size, 0, none⟩)) ∧ (∀ h, a0.tmps[13]'h = .string al)) ⟨rfl, fun _ => rfl, fun _ => rfl⟩ ?_
            rintro a0 ⟨hz3, s16, s13⟩ ha0
            refine wp_region_held (S := fun W => True) (by kernel_rfl) ?_
            have hS0 : True := trivial
            refine h_take (i := 0) (.pointer (some ⟨wc.heap.size, 0, none⟩)) rfl (by kernel_rfl) (by kernel_rfl) (by kernel_rfl) (fun _ _ _ h => h) rfl hS0 (fun W hW => by simp [execOp, go_sem, Act.put, hz3, s16]) ?_
            refine h_take (i := 2) (.string al) rfl (by kernel_rfl) (by kernel_rfl) (by kernel_rfl) (fun _ _ _ h => h) rfl hS0 (fun W hW => by simp [execOp, go_sem, Act.put, hz3, s13]) ?_
            refine h_take (i := 3) (.string y) rfl (by kernel_rfl) (by kernel_rfl) (by kernel_rfl) (fun _ _ _ h => h) rfl hS0 (fun W hW => by simp [execOp, go_sem, Act.put, hz3, hsl1]) ?_
            obtain ⟨w4, hw4⟩ : ∃ w4, wr.drew.alloc (.cells #[.string y] 9) = w4 := ⟨_, rfl⟩
            have hM4 : Mk2 w w0.heap.size wc.heap.size wn.heap.size (N.take k) w4 (.slice na ln nc) := by rw [← hw4]; exact (HR.out.below (Below.refl _ _).drew).below (balloc _ _)
            obtain ⟨v', w5, hrun, hY5, hM6⟩ := hM4.add (by omega) (by omega) (by omega) (by omega) (by rw [HLN.out]; omega) wr.heap.size y (by rw [← hw4]; exact (MapKept.heap_alloc wr.drew _).1)
            obtain ⟨w6, hw6⟩ : ∃ w6, w5.setCell ⟨wc.heap.size, 0, none⟩ v' = w6 := ⟨_, rfl⟩
            rw [hw6, HTK.out] at hM6
            obtain ⟨nb, nd, rfl, _, _⟩ := hM6.2.2.1.form
            obtain ⟨⟨zm, m0, m1⟩, l1, l2⟩ := boxD hY5
            obtain ⟨⟨zv, i0, i1⟩, _⟩ := boxD hM4.1
            have HE : Hid (Mk2 w w0.heap.size wc.heap.size wn.heap.size (N.take (k + 1)) w6 (.slice nb (N.take (k + 1)).length nd)) := hM6
            refine h_two 1 4 (by kernel_rfl) ?_ ?_
            · refine o_value (w' := wr.drew) (.slice na ln nc) rfl rfl (by simp [execOp, go_sem, Act.put, hz3, s16, y0]) ⟨hS0, ?_⟩
              refine h_value (i := 4) (w' := w4) (.slice (some ⟨wr.heap.size, 0, none⟩) 1 1) rfl (by kernel_rfl) rfl (by rw [← hw4]; simp [execOp, go_sem, Act.put, hz3]) hS0 ?_
              refine h_value (i := 5) (w' := w5) _ rfl (by kernel_rfl) rfl (run_append_op (.tmp 115) (.tmp 118) 43 rfl (.slice na ln nc) (.slice (some ⟨wr.heap.size, 0, none⟩) 1 1) _ (by simp [go_sem, Act.put, hz3]) (by simp [go_sem, Act.put, hz3]) hrun) hS0 ?_
              refine h_take (i := 6) (.pointer (some ⟨wc.heap.size, 0, none⟩)) rfl (by kernel_rfl) (by kernel_rfl) (by kernel_rfl) (fun _ _ _ h => h) rfl hS0 (fun W hW => by simp [execOp, go_sem, Act.put, hz3, s16]) ?_
              refine h_skip (i := 7) (w' := w6) rfl (by kernel_rfl) rfl (by rw [← hw6]; simp [execOp, go_sem, Act.put, hz3, s16, zm, m0, m1, l1, l2]) hS0 ?_
              refine wpAnyH_done (by kernel_rfl) ?_ _
              subst ha0
              clear hz3 s16 s13 m0 m1 zm l1 l2 hw4 hw6 hrun hM4 hM6 HR hY5 hlo zv i0 i1
              go_simp
              go_wp2_with fail
              go_roundw
              case rel => exact ⟨k + 1, _, by omega, by rw [HA2.out], HE.out⟩
              case measure => simp only [txLen]; omega
            · refine o_value (w' := w4) (.slice (some ⟨wr.heap.size, 0, none⟩) 1 1) rfl rfl (by rw [← hw4]; simp [execOp, go_sem, Act.put, hz3]) ⟨hS0, ?_⟩
              refine h_value (i := 1) (w' := w4) (.slice na ln nc) rfl (by kernel_rfl) rfl (by simp [execOp, go_sem, Act.put, hz3, s16, i0]) hS0 ?_
              refine h_value (i := 5) (w' := w5) _ rfl (by kernel_rfl) rfl (run_append_op (.tmp 115) (.tmp 118) 43 rfl (.slice na ln nc) (.slice (some ⟨wr.heap.size, 0, none⟩) 1 1) _ (by simp [go_sem, Act.put, hz3]) (by simp [go_sem, Act.put, hz3]) hrun) hS0 ?_
              refine h_take (i := 6) (.pointer (some ⟨wc.heap.size, 0, none⟩)) rfl (by kernel_rfl) (by kernel_rfl) (by kernel_rfl) (fun _ _ _ h => h) rfl hS0 (fun W hW => by simp [execOp, go_sem, Act.put, hz3, s16]) ?_
              refine h_skip (i := 7) (w' := w6) rfl (by kernel_rfl) rfl (by rw [← hw6]; simp [execOp, go_sem, Act.put, hz3, s16, zm, m0, m1, l1, l2]) hS0 ?_
              refine wpAnyH_done (by kernel_rfl) ?_ _
              subst ha0
              clear hz3 s16 s13 m0 m1 zm l1 l2 hw4 hw6 hrun hM4 hM6 HR hY5 hlo zv i0 i1
              go_simp
              go_wp2_with fail
              go_roundw
              case rel => exact ⟨k + 1, _, by omega, by rw [HA2.out], HE.out⟩
              case measure => simp only [txLen]; omega
      · rw [if_neg fun r => hqo r.2] at HDT
        have hgt : ¬ (O.size : Int) > (q : Int) := by omega
        clear hqo h6 hlen6
        obtain ⟨wn, hwn, hYn, hbn⟩ := dk_named wc (.slice none 0 0) 0
        obtain ⟨wf, hwf, hXf, hBf, hkf, hsf⟩ := dk_put wn wc.heap.size _ _ (.slice none 0 0) 0 hYn
        have hlc := (Array.getElem?_eq_some_iff.1 HC.out.2).1
        have hln := (Array.getElem?_eq_some_iff.1 hYn).1
        have HM : Hid (Mk2 w w0.heap.size wc.heap.size wn.heap.size [] wf (.slice none 0 0)) := ⟨hXf, (hkf _ (by omega)).trans (keep HC.out.2 hbn), Txs.nil _ _, hBf _ _ HC.out.1.size (bsq HC.out.1 hbn), by omega⟩
        have HLZ : Hid (w.heap.size < w0.heap.size ∧ w.heap.size ≤ wc.heap.size ∧ w0.heap.size < wc.heap.size ∧ wc.heap.size < wn.heap.size) := ⟨HLT.out.1, HC.out.1.size, hlc, hln⟩
        obtain ⟨⟨_, y0, y1⟩, g0, g1⟩ := boxD hYn
        clear hYn hbn hXf hBf hkf hsf
        go_wp2_with fail
        try rw [hwf]
        clear hwf hwn y0 y1 g0 g1
        go_loopw [13] (fun av wr => ∃ (k : Nat) (v : Value), k ≤ n ∧ av = .string (cat (N.drop k)) ∧ Hid (Mk2 w w0.heap.size wc.heap.size wn.heap.size (N.take k) wr v)) (fun av _ => txLen av)
        case atStart => exact ⟨0, _, Nat.zero_le _, rfl, HM.out⟩
        case round =>
          obtain ⟨k, v, hk, rfl, HR⟩ := hrel
          clear HM
          obtain ⟨na, nc, rfl, _, _⟩ := HR.out.2.2.1.form
          obtain ⟨⟨zy, y0, y1⟩, g0, g1⟩ := boxD HR.out.1
          obtain ⟨⟨zr, x0, x1⟩, f0, f1⟩ := boxD HR.out.2.1
          by_cases hlt : ¬ k < n
          · have hkn : k = n := by omega
            have hce : cat (N.drop k) = ⟨#[]⟩ := by rw [List.drop_eq_nil_of_le (by rw [HNL.out]; omega)]; rfl
            have hte : N.take k = N := List.take_of_length_le (by rw [HNL.out]; omega)
            obtain ⟨ln, hln2⟩ : ∃ ln, (N.take k).length = ln := ⟨_, rfl⟩
            rw [hln2] at y0 HR
            obtain ⟨uf, huf, hXf, hBf, hkf, hsf⟩ := dk_put wr w0.heap.size _ _ (.slice na ln nc) 0 HR.out.2.1
            obtain ⟨⟨zf, p0, p1⟩, _⟩ := boxD hXf
            have HE : Hid (Rts uf (.slice na ln nc) N ∧ Below w.heap.size w uf) := by
              have h := HR.out
              have hz := HLZ.out
              refine ⟨?_, hBf _ _ (by omega) h.2.2.2.1⟩
              have q := h.2.2.1
              rw [hte] at q
              rw [← huf]
              exact (txs_setX (txs_setX q (by omega) _ _) (by omega) _ _).rts
            rw [hce]
            clear hXf hBf hkf hsf HR hce hte hln2 hkn
            go_wp2_with fail
            try rw [huf]
            exact bodyPost_ret (v := .tuple #[dkV (.slice na ln nc) 0, .string (O), .int .i64 0]) (by simp [results, Try.results45, go_sem, zf, p0, p1]) rfl (by rw [HDT.out.1, HDT.out.2.1, HDT.out.2.2]; exact ⟨_, rfl, HE.out⟩)
          · have hlt : k < n := Classical.not_not.1 hlt
            obtain ⟨r1, r2, r3⟩ := rest_step HN16.out (k := k) (by rw [HNL.out]; exact hlt)
            obtain ⟨al, hal⟩ : ∃ al, cat (N.drop k) = al := ⟨_, rfl⟩
            obtain ⟨y, hy⟩ : ∃ y, N[k]'(by rw [HNL.out]; exact hlt) = y := ⟨_, rfl⟩
            obtain ⟨al2, hal2⟩ : ∃ al, cat (N.drop (k + 1)) = al := ⟨_, rfl⟩
            have hab : al.size ≤ 1024 := by
              rw [← hal, size16 _ fun y hy => HN16.out y (List.mem_of_mem_drop hy), List.length_drop, HNL.out]; omega
            have hab2 : al2.size < al.size := by
              rw [← hal, ← hal2, size16 _ fun y hy => HN16.out y (List.mem_of_mem_drop hy), size16 _ fun y hy => HN16.out y (List.mem_of_mem_drop hy), List.length_drop, List.length_drop, HNL.out]; omega
            rw [hy, hal] at r1
            rw [hal, hal2] at r2
            rw [hal] at r3 ⊢
            have HA2 : Hid (cat (N.drop (k + 1)) = al2) := hal2
            have hfull := str_full al (by omega)
            have hsl1 : ∀ W, (Instr.slice 9 (.string al) none (some (.int .i64 16)) none).run Try.prog W = .ok (.string y) W := fun W => by
              have := run_slice_string_h (P := Try.prog) (w := W) 9 al Try.underlying9 .i64 16 (by omega) (by omega)
              rw [this, ← r1]; rfl
            have hsl2 : ∀ W, (Instr.slice 9 (.string al) (some (.int .i64 16)) none none).run Try.prog W = .ok (.string al2) W := fun W => by
              have := run_slice_string_l (P := Try.prog) (w := W) 9 al Try.underlying9 .i64 16 (by omega) (by omega)
              rw [this, ← r2]; rfl
            have HTK : Hid (N.take k ++ [y] = N.take (k + 1)) := by
              show _ = _
              rw [← hy]; exact (List.take_succ_eq_append_getElem (by rw [HNL.out]; exact hlt)).symm
            have HLN : Hid ((N.take k).length = k) := by show _ = _; rw [List.length_take, HNL.out]; omega
            obtain ⟨ln, hln2⟩ : ∃ ln, (N.take k).length = ln := ⟨_, rfl⟩
            rw [hln2] at y0 HR
            have hz := HLZ.out
            obtain ⟨hz1, hz2, hz3', hz4⟩ := hz
            have hlo : True := trivial
            clear hal hal2 hy r1 r2 hln2 hz3'
            have hz5 := HLZ.out.2.2.1
            go_upto_region 28 with (fail)
            refine wp_abs (fun a0 => a0.tmps.size = 123 ∧ (∀ h, a0.tmps[16]'h = .pointer (some ⟨wc.heap.size, 0, none⟩)) ∧ (∀ h, a0.tmps[13]'h = .string al)) ⟨rfl, fun _ => rfl, fun _ => rfl⟩ ?_
            rintro a0 ⟨hz3, s16, s13⟩ ha0
            refine wp_region_held (S := fun W => True) (by kernel_rfl) ?_
            have hS0 : True := trivial
            refine h_take (i := 0) (.pointer (some ⟨wc.heap.size, 0, none⟩)) rfl (by kernel_rfl) (by kernel_rfl) (by kernel_rfl) (fun _ _ _ h => h) rfl hS0 (fun W hW => by simp [execOp, go_sem, Act.put, hz3, s16]) ?_
            refine h_take (i := 2) (.string al) rfl (by kernel_rfl) (by kernel_rfl) (by kernel_rfl) (fun _ _ _ h => h) rfl hS0 (fun W hW => by simp [execOp, go_sem, Act.put, hz3, s13]) ?_
            refine h_take (i := 3) (.string y) rfl (by kernel_rfl) (by kernel_rfl) (by kernel_rfl) (fun _ _ _ h => h) rfl hS0 (fun W hW => by simp [execOp, go_sem, Act.put, hz3, hsl1]) ?_
            obtain ⟨w4, hw4⟩ : ∃ w4, wr.drew.alloc (.cells #[.string y] 9) = w4 := ⟨_, rfl⟩
            have hM4 : Mk2 w w0.heap.size wc.heap.size wn.heap.size (N.take k) w4 (.slice na ln nc) := by rw [← hw4]; exact (HR.out.below (Below.refl _ _).drew).below (balloc _ _)
            obtain ⟨v', w5, hrun, hY5, hM6⟩ := hM4.add (by omega) (by omega) (by omega) (by omega) (by rw [HLN.out]; omega) wr.heap.size y (by rw [← hw4]; exact (MapKept.heap_alloc wr.drew _).1)
            obtain ⟨w6, hw6⟩ : ∃ w6, w5.setCell ⟨wc.heap.size, 0, none⟩ v' = w6 := ⟨_, rfl⟩
            rw [hw6, HTK.out] at hM6
            obtain ⟨nb, nd, rfl, _, _⟩ := hM6.2.2.1.form
            obtain ⟨⟨zm, m0, m1⟩, l1, l2⟩ := boxD hY5
            obtain ⟨⟨zv, i0, i1⟩, _⟩ := boxD hM4.1
            have HE : Hid (Mk2 w w0.heap.size wc.heap.size wn.heap.size (N.take (k + 1)) w6 (.slice nb (N.take (k + 1)).length nd)) := hM6
            refine h_two 1 4 (by kernel_rfl) ?_ ?_
            · refine o_value (w' := wr.drew) (.slice na ln nc) rfl rfl (by simp [execOp, go_sem, Act.put, hz3, s16, y0]) ⟨hS0, ?_⟩
              refine h_value (i := 4) (w' := w4) (.slice (some ⟨wr.heap.size, 0, none⟩) 1 1) rfl (by kernel_rfl) rfl (by rw [← hw4]; simp [execOp, go_sem, Act.put, hz3]) hS0 ?_
              refine h_value (i := 5) (w' := w5) _ rfl (by kernel_rfl) rfl (run_append_op (.tmp 115) (.tmp 118) 43 rfl (.slice na ln nc) (.slice (some ⟨wr.heap.size, 0, none⟩) 1 1) _ (by simp [go_sem, Act.put, hz3]) (by simp [go_sem, Act.put, hz3]) hrun) hS0 ?_
              refine h_take (i := 6) (.pointer (some ⟨wc.heap.size, 0, none⟩)) rfl (by kernel_rfl) (by kernel_rfl) (by kernel_rfl) (fun _ _ _ h => h) rfl hS0 (fun W hW => by simp [execOp, go_sem, Act.put, hz3, s16]) ?_
              refine h_skip (i := 7) (w' := w6) rfl (by kernel_rfl) rfl (by rw [← hw6]; simp [execOp, go_sem, Act.put, hz3, s16, zm, m0, m1, l1, l2]) hS0 ?_
              refine wpAnyH_done (by kernel_rfl) ?_ _
              subst ha0
              clear hz3 s16 s13 m0 m1 zm l1 l2 hw4 hw6 hrun hM4 hM6 HR hY5 hlo zv i0 i1
              go_simp
              go_wp2_with fail
              go_roundw
              case rel => exact ⟨k + 1, _, by omega, by rw [HA2.out], HE.out⟩
              case measure => simp only [txLen]; omega
            · refine o_value (w' := w4) (.slice (some ⟨wr.heap.size, 0, none⟩) 1 1) rfl rfl (by rw [← hw4]; simp [execOp, go_sem, Act.put, hz3]) ⟨hS0, ?_⟩
              refine h_value (i := 1) (w' := w4) (.slice na ln nc) rfl (by kernel_rfl) rfl (by simp [execOp, go_sem, Act.put, hz3, s16, i0]) hS0 ?_
              refine h_value (i := 5) (w' := w5) _ rfl (by kernel_rfl) rfl (run_append_op (.tmp 115) (.tmp 118) 43 rfl (.slice na ln nc) (.slice (some ⟨wr.heap.size, 0, none⟩) 1 1) _ (by simp [go_sem, Act.put, hz3]) (by simp [go_sem, Act.put, hz3]) hrun) hS0 ?_
              refine h_take (i := 6) (.pointer (some ⟨wc.heap.size, 0, none⟩)) rfl (by kernel_rfl) (by kernel_rfl) (by kernel_rfl) (fun _ _ _ h => h) rfl hS0 (fun W hW => by simp [execOp, go_sem, Act.put, hz3, s16]) ?_
              refine h_skip (i := 7) (w' := w6) rfl (by kernel_rfl) rfl (by rw [← hw6]; simp [execOp, go_sem, Act.put, hz3, s16, zm, m0, m1, l1, l2]) hS0 ?_
              refine wpAnyH_done (by kernel_rfl) ?_ _
              subst ha0
              clear hz3 s16 s13 m0 m1 zm l1 l2 hw4 hw6 hrun hM4 hM6 HR hY5 hlo zv i0 i1
              go_simp
              go_wp2_with fail
              go_roundw
              case rel => exact ⟨k + 1, _, by omega, by rw [HA2.out], HE.out⟩
              case measure => simp only [txLen]; omega
    · rw [if_neg fun r => h6 r.1] at HDT
      have e6 : ((c.size : Int) == 6) = false := by rw [beq_eq_false_iff_ne]; omega
      clear h6 hlen6
      obtain ⟨wn, hwn, hYn, hbn⟩ := dk_named wc (.slice none 0 0) 0
      obtain ⟨wf, hwf, hXf, hBf, hkf, hsf⟩ := dk_put wn wc.heap.size _ _ (.slice none 0 0) 0 hYn
      have hlc := (Array.getElem?_eq_some_iff.1 HC.out.2).1
      have hln := (Array.getElem?_eq_some_iff.1 hYn).1
      have HM : Hid (Mk2 w w0.heap.size wc.heap.size wn.heap.size [] wf (.slice none 0 0)) := ⟨hXf, (hkf _ (by omega)).trans (keep HC.out.2 hbn), Txs.nil _ _, hBf _ _ HC.out.1.size (bsq HC.out.1 hbn), by omega⟩
      have HLZ : Hid (w.heap.size < w0.heap.size ∧ w.heap.size ≤ wc.heap.size ∧ w0.heap.size < wc.heap.size ∧ wc.heap.size < wn.heap.size) := ⟨HLT.out.1, HC.out.1.size, hlc, hln⟩
      obtain ⟨⟨_, y0, y1⟩, g0, g1⟩ := boxD hYn
      clear hYn hbn hXf hBf hkf hsf
      go_wp2_with fail
      try rw [hwf]
      clear hwf hwn y0 y1 g0 g1
      go_loopw [13] (fun av wr => ∃ (k : Nat) (v : Value), k ≤ n ∧ av = .string (cat (N.drop k)) ∧ Hid (Mk2 w w0.heap.size wc.heap.size wn.heap.size (N.take k) wr v)) (fun av _ => txLen av)
      case atStart => exact ⟨0, _, Nat.zero_le _, rfl, HM.out⟩
      case round =>
        obtain ⟨k, v, hk, rfl, HR⟩ := hrel
        clear HM
        obtain ⟨na, nc, rfl, _, _⟩ := HR.out.2.2.1.form
        obtain ⟨⟨zy, y0, y1⟩, g0, g1⟩ := boxD HR.out.1
        obtain ⟨⟨zr, x0, x1⟩, f0, f1⟩ := boxD HR.out.2.1
        by_cases hlt : ¬ k < n
        · have hkn : k = n := by omega
          have hce : cat (N.drop k) = ⟨#[]⟩ := by rw [List.drop_eq_nil_of_le (by rw [HNL.out]; omega)]; rfl
          have hte : N.take k = N := List.take_of_length_le (by rw [HNL.out]; omega)
          obtain ⟨ln, hln2⟩ : ∃ ln, (N.take k).length = ln := ⟨_, rfl⟩
          rw [hln2] at y0 HR
          obtain ⟨uf, huf, hXf, hBf, hkf, hsf⟩ := dk_put wr w0.heap.size _ _ (.slice na ln nc) 0 HR.out.2.1
          obtain ⟨⟨zf, p0, p1⟩, _⟩ := boxD hXf
          have HE : Hid (Rts uf (.slice na ln nc) N ∧ Below w.heap.size w uf) := by
            have h := HR.out
            have hz := HLZ.out
            refine ⟨?_, hBf _ _ (by omega) h.2.2.2.1⟩
            have q := h.2.2.1
            rw [hte] at q
            rw [← huf]
            exact (txs_setX (txs_setX q (by omega) _ _) (by omega) _ _).rts
          rw [hce]
          clear hXf hBf hkf hsf HR hce hte hln2 hkn
          go_wp2_with fail
          try rw [huf]
          exact bodyPost_ret (v := .tuple #[dkV (.slice na ln nc) 0, .string (O), .int .i64 0]) (by simp [results, Try.results45, go_sem, zf, p0, p1]) rfl (by rw [HDT.out.1, HDT.out.2.1, HDT.out.2.2]; exact ⟨_, rfl, HE.out⟩)
        · have hlt : k < n := Classical.not_not.1 hlt
          obtain ⟨r1, r2, r3⟩ := rest_step HN16.out (k := k) (by rw [HNL.out]; exact hlt)
          obtain ⟨al, hal⟩ : ∃ al, cat (N.drop k) = al := ⟨_, rfl⟩
          obtain ⟨y, hy⟩ : ∃ y, N[k]'(by rw [HNL.out]; exact hlt) = y := ⟨_, rfl⟩
          obtain ⟨al2, hal2⟩ : ∃ al, cat (N.drop (k + 1)) = al := ⟨_, rfl⟩
          have hab : al.size ≤ 1024 := by
            rw [← hal, size16 _ fun y hy => HN16.out y (List.mem_of_mem_drop hy), List.length_drop, HNL.out]; omega
          have hab2 : al2.size < al.size := by
            rw [← hal, ← hal2, size16 _ fun y hy => HN16.out y (List.mem_of_mem_drop hy), size16 _ fun y hy => HN16.out y (List.mem_of_mem_drop hy), List.length_drop, List.length_drop, HNL.out]; omega
          rw [hy, hal] at r1
          rw [hal, hal2] at r2
          rw [hal] at r3 ⊢
          have HA2 : Hid (cat (N.drop (k + 1)) = al2) := hal2
          have hfull := str_full al (by omega)
          have hsl1 : ∀ W, (Instr.slice 9 (.string al) none (some (.int .i64 16)) none).run Try.prog W = .ok (.string y) W := fun W => by
            have := run_slice_string_h (P := Try.prog) (w := W) 9 al Try.underlying9 .i64 16 (by omega) (by omega)
            rw [this, ← r1]; rfl
          have hsl2 : ∀ W, (Instr.slice 9 (.string al) (some (.int .i64 16)) none none).run Try.prog W = .ok (.string al2) W := fun W => by
            have := run_slice_string_l (P := Try.prog) (w := W) 9 al Try.underlying9 .i64 16 (by omega) (by omega)
            rw [this, ← r2]; rfl
          have HTK : Hid (N.take k ++ [y] = N.take (k + 1)) := by
            show _ = _
            rw [← hy]; exact (List.take_succ_eq_append_getElem (by rw [HNL.out]; exact hlt)).symm
          have HLN : Hid ((N.take k).length = k) := by show _ = _; rw [List.length_take, HNL.out]; omega
          obtain ⟨ln, hln2⟩ : ∃ ln, (N.take k).length = ln := ⟨_, rfl⟩
          rw [hln2] at y0 HR
          have hz := HLZ.out
          obtain ⟨hz1, hz2, hz3', hz4⟩ := hz
          have hlo : True := trivial
          clear hal hal2 hy r1 r2 hln2 hz3'
          have hz5 := HLZ.out.2.2.1
          go_upto_region 28 with (fail)
          refine wp_abs (fun a0 => a0.tmps.size = 123 ∧ (∀ h, a0.tmps[16]'h = .pointer (some ⟨wc.heap.size, 0, none⟩)) ∧ (∀ h, a0.tmps[13]'h = .string al)) ⟨rfl, fun _ => rfl, fun _ => rfl⟩ ?_
          rintro a0 ⟨hz3, s16, s13⟩ ha0
          refine wp_region_held (S := fun W => True) (by kernel_rfl) ?_
          have hS0 : True := trivial
          refine h_take (i := 0) (.pointer (some ⟨wc.heap.size, 0, none⟩)) rfl (by kernel_rfl) (by kernel_rfl) (by kernel_rfl) (fun _ _ _ h => h) rfl hS0 (fun W hW => by simp [execOp, go_sem, Act.put, hz3, s16]) ?_
          refine h_take (i := 2) (.string al) rfl (by kernel_rfl) (by kernel_rfl) (by kernel_rfl) (fun _ _ _ h => h) rfl hS0 (fun W hW => by simp [execOp, go_sem, Act.put, hz3, s13]) ?_
          refine h_take (i := 3) (.string y) rfl (by kernel_rfl) (by kernel_rfl) (by kernel_rfl) (fun _ _ _ h => h) rfl hS0 (fun W hW => by simp [execOp, go_sem, Act.put, hz3, hsl1]) ?_
          obtain ⟨w4, hw4⟩ : ∃ w4, wr.drew.alloc (.cells #[.string y] 9) = w4 := ⟨_, rfl⟩
          have hM4 : Mk2 w w0.heap.size wc.heap.size wn.heap.size (N.take k) w4 (.slice na ln nc) := by rw [← hw4]; exact (HR.out.below (Below.refl _ _).drew).below (balloc _ _)
          obtain ⟨v', w5, hrun, hY5, hM6⟩ := hM4.add (by omega) (by omega) (by omega) (by omega) (by rw [HLN.out]; omega) wr.heap.size y (by rw [← hw4]; exact (MapKept.heap_alloc wr.drew _).1)
          obtain ⟨w6, hw6⟩ : ∃ w6, w5.setCell ⟨wc.heap.size, 0, none⟩ v' = w6 := ⟨_, rfl⟩
          rw [hw6, HTK.out] at hM6
          obtain ⟨nb, nd, rfl, _, _⟩ := hM6.2.2.1.form
          obtain ⟨⟨zm, m0, m1⟩, l1, l2⟩ := boxD hY5
          obtain ⟨⟨zv, i0, i1⟩, _⟩ := boxD hM4.1
          have HE : Hid (Mk2 w w0.heap.size wc.heap.size wn.heap.size (N.take (k + 1)) w6 (.slice nb (N.take (k + 1)).length nd)) := hM6
          refine h_two 1 4 (by kernel_rfl) ?_ ?_
          · refine o_value (w' := wr.drew) (.slice na ln nc) rfl rfl (by simp [execOp, go_sem, Act.put, hz3, s16, y0]) ⟨hS0, ?_⟩
            refine h_value (i := 4) (w' := w4) (.slice (some ⟨wr.heap.size, 0, none⟩) 1 1) rfl (by kernel_rfl) rfl (by rw [← hw4]; simp [execOp, go_sem, Act.put, hz3]) hS0 ?_
            refine h_value (i := 5) (w' := w5) _ rfl (by kernel_rfl) rfl (run_append_op (.tmp 115) (.tmp 118) 43 rfl (.slice na ln nc) (.slice (some ⟨wr.heap.size, 0, none⟩) 1 1) _ (by simp [go_sem, Act.put, hz3]) (by simp [go_sem, Act.put, hz3]) hrun) hS0 ?_
            refine h_take (i := 6) (.pointer (some ⟨wc.heap.size, 0, none⟩)) rfl (by kernel_rfl) (by kernel_rfl) (by kernel_rfl) (fun _ _ _ h => h) rfl hS0 (fun W hW => by simp [execOp, go_sem, Act.put, hz3, s16]) ?_
            refine h_skip (i := 7) (w' := w6) rfl (by kernel_rfl) rfl (by rw [← hw6]; simp [execOp, go_sem, Act.put, hz3, s16, zm, m0, m1, l1, l2]) hS0 ?_
            refine wpAnyH_done (by kernel_rfl) ?_ _
            subst ha0
            clear hz3 s16 s13 m0 m1 zm l1 l2 hw4 hw6 hrun hM4 hM6 HR hY5 hlo zv i0 i1
            go_simp
            go_wp2_with fail
            go_roundw
            case rel => exact ⟨k + 1, _, by omega, by rw [HA2.out], HE.out⟩
            case measure => simp only [txLen]; omega
          · refine o_value (w' := w4) (.slice (some ⟨wr.heap.size, 0, none⟩) 1 1) rfl rfl (by rw [← hw4]; simp [execOp, go_sem, Act.put, hz3]) ⟨hS0, ?_⟩
            refine h_value (i := 1) (w' := w4) (.slice na ln nc) rfl (by kernel_rfl) rfl (by simp [execOp, go_sem, Act.put, hz3, s16, i0]) hS0 ?_
            refine h_value (i := 5) (w' := w5) _ rfl (by kernel_rfl) rfl (run_append_op (.tmp 115) (.tmp 118) 43 rfl (.slice na ln nc) (.slice (some ⟨wr.heap.size, 0, none⟩) 1 1) _ (by simp [go_sem, Act.put, hz3]) (by simp [go_sem, Act.put, hz3]) hrun) hS0 ?_
            refine h_take (i := 6) (.pointer (some ⟨wc.heap.size, 0, none⟩)) rfl (by kernel_rfl) (by kernel_rfl) (by kernel_rfl) (fun _ _ _ h => h) rfl hS0 (fun W hW => by simp [execOp, go_sem, Act.put, hz3, s16]) ?_
            refine h_skip (i := 7) (w' := w6) rfl (by kernel_rfl) rfl (by rw [← hw6]; simp [execOp, go_sem, Act.put, hz3, s16, zm, m0, m1, l1, l2]) hS0 ?_
            refine wpAnyH_done (by kernel_rfl) ?_ _
            subst ha0
            clear hz3 s16 s13 m0 m1 zm l1 l2 hw4 hw6 hrun hM4 hM6 HR hY5 hlo zv i0 i1
            go_simp
            go_wp2_with fail
            go_roundw
            case rel => exact ⟨k + 1, _, by omega, by rw [HA2.out], HE.out⟩
            case measure => simp only [txLen]; omega
end Go.Proofs.Ytecknicmonhcaaa.scsi
