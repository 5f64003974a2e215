/- The walk of WireBack. -/
import Derived.Test.YtpjepndeppckdaaDoorSt
import Derived.Test.YtpjepndeppckdaaDoorBulk
import Derived.Deep.RegionHeld3
namespace Go.Proofs.YtpjepndeppckdaaDoor
open Go.RowKit Go.Lib Crc

theorem forms_kept (l : List It) : forms l = (l.filter fitB).flatMap It.form := rfl
theorem kept_yes {l : List It} {k : Nat} {x : It} (h : l[k]? = some x) (hf : fitB x = true) : (l.take (k + 1)).filter fitB = (l.take k).filter fitB ++ [x] := by
  rw [take_succ' h, List.filter_append]; simp [hf]
theorem kept_no {l : List It} {k : Nat} {x : It} (h : l[k]? = some x) (hf : fitB x = false) : (l.take (k + 1)).filter fitB = (l.take k).filter fitB := by
  rw [take_succ' h, List.filter_append]; simp [hf]
theorem drop_kept {its : List It} {k : Nat} {x : It} (hx : its[k]? = some x) : (its.flatMap It.form).drop ((its.take k).flatMap It.form).length = x.form ++ (its.drop (k + 1)).flatMap It.form := by
  have e : its.flatMap It.form = (its.take k).flatMap It.form ++ (its.drop k).flatMap It.form := by rw [← List.flatMap_append, List.take_append_drop]
  rw [e, List.drop_left, drop_succ' hx, List.flatMap_cons]
theorem kept_len (l : List It) (k : Nat) : ((l.take k).filter fitB).length ≤ wt l := by
  have h1 : ((l.take k).filter fitB).length ≤ l.length := Nat.le_trans (List.length_filter_le _ _) (by rw [List.length_take]; omega)
  have h2 : ∀ l : List It, l.length ≤ wt l := by
    intro l
    induction l with
    | nil => simp [wt]
    | cons x l ih => simp only [List.length_cons, wt]; omega
  exact Nat.le_trans h1 (h2 l)
set_option maxRecDepth 100000 in
set_option maxHeartbeats 2000000 in
theorem back_law (ao : Option Addr) (len cap : Nat) (l : List It) (w : World) (hi : Its w ao len l) (hwt : wt l ≤ 1048576) (hT : Tab w) :
    Calls Tryd.prog 4 #[.slice ao len cap] w fun e w' => e = .returned (.bool true) ∧ Below w.heap.size w w' := by
  have hpos := hT.pos
  have HT := hide hT
  obtain ⟨hll, hlm, hok, hat⟩ := hi
  obtain ⟨iI, hiI, hI0, hI1, hI2⟩ := info_parts infoInt
  obtain ⟨iM, hiM, hM0, hM1, hM2⟩ := info_parts infoItem
  have HOK := hide hok
  have HAT := hide hat
  have HLL := hide hll
  have hfl := forms_len l
  clear hT hok hat hll
  go_enter Tryd.func4, Tryd.ntmps4
  go_wp2_with fail
  refine (works_ok w (unhide HT)).mono ?_
  rintro e w1 ⟨rfl, hb⟩
  have hsz := hb.size
  have HB := hide hb
  clear hb
  go_wp2_with fail
  refine (wNew _).mono ?_
  rintro e w2 ⟨rfl, rfl⟩
  go_wp2
  go_loopw [4, 5, 6] (fun v4 v5 i wr => ∃ k r : Nat, k ≤ len ∧ i = .int .i64 k ∧ Hid (St w.heap.size w wr w1.heap.size r v4 v5 (forms (l.take k)) (ends ((l.take k).filter fitB)) ((l.take k).filter fitB))) (fun _ _ i _ => len - (intOf i).toNat)
  case atStart =>
    refine ⟨0, w1.heap.size, Nat.zero_le _, rfl, hide ⟨?_, ?_, World.ownsRow_nil _ _ _ _, ?_, ?_, ?_, hsz, hsz, ?_⟩⟩
    · simpa [forms] using (Wr.new w1 70).alloc _
    · have := World.ownsRow_lit (base := w.heap.size) (e := 3) (size := 1) (w1.alloc (.cells #[.slice none 0 0] 70)) #[.int .i64 0] 1 (by simp; omega) (by decide) rfl
      simpa [ends] using this
    · intro g hg
      have : g = w1.heap.size + 1 := by simpa [Value.ownBlock] using hg.symm
      omega
    · intro g hg; cases hg
    · intro g _ hg; cases hg
    · exact ((unhide HB).alloc (by omega) _).alloc (by simp; omega) _
  case round =>
    obtain ⟨k, r, hk, rfl, HI⟩ := hrel
    by_cases hlt : k < len
    · obtain ⟨x, hx⟩ : ∃ x, l[k]? = some x := ⟨l[k]'(by rw [unhide HLL]; exact hlt), List.getElem?_eq_getElem _⟩
      have hxok := unhide HOK x (List.mem_of_getElem? hx)
      obtain ⟨ib, io, rfl, hib, hcells⟩ : ∃ b off, ao = some ⟨b, off, none⟩ ∧ b < w.heap.size ∧ x.At w b (off + k * 5) := by
        rcases unhide HAT with h | ⟨b, off, h1, h2, h3⟩
        · omega
        · exact ⟨b, off, h1, h2, h3 k x hx⟩
      obtain ⟨x0, x1, x2, x3, x4⟩ := hcells.below (unhide HI).bel hib
      have HAt := hide hcells
      have hkl : (k : Int) < (len : Int) := by omega
      have hxw := wt_mem (List.mem_of_getElem? hx)
      have hbl : (forms (l.take k)).length ≤ 2097152 := by
        have h1 := forms_len (l.take k)
        have h2 := wt_append (l.take k) (l.drop k)
        rw [List.take_append_drop] at h2
        omega
      have hkn := kept_len l k
      have HX := hide hxok
      have HXS := hide hx
      clear hxok hx hcells
      go_wp2_with fail
      refine (fits_walk x (unhide HX) _).mono ?_
      rintro e w3 ⟨rfl, hb3⟩
      have HS3 := hide ((unhide HI).below' hb3)
      obtain ⟨y0, y1, y2, y3, y4⟩ := (unhide HAt).below (unhide HS3).bel hib
      clear hb3 x0 x1 x2 x3 x4 HI
      by_cases hf : fitB x = true
      · go_wp2_with fail
        refine (put_walk x (unhide HX) hf w1.heap.size r _ _ (unhide HS3).wr (by omega)).mono ?_
        rintro e w4 ⟨rfl, r', hp⟩
        have HS4 := hide ((unhide HS3).put hp)
        obtain ⟨z0, z1, z2, z3, z4⟩ := (unhide HAt).below (unhide HS4).bel hib
        clear hp y0 y1 y2 y3 y4 HS3
        have ho5 := (unhide HS4).o5
        go_wp2_with (at_builtin; refine wpList_put _ rfl (.tmp 32) (.tmp 37) 27 rfl w.heap.size 35 iM _ 5 48 Tryd.underlying27 hiM hM0 hM1 hM2 rfl (by decide) _ _ _ rfl (ho5.alloc _) ⟨w4.heap.size, 0, none⟩ 1 1 x.cells rfl rfl ?c1 ?c2 ?c3 ?c4 ?c5 ?_)
        case c1 =>
          intro j u hj
          match j, hj with
          | 0, hj => simp [It.cells] at hj; subst hj; simp [Addr.add]
          | 1, hj => simp [It.cells] at hj; subst hj; simp [Addr.add]
          | 2, hj => simp [It.cells] at hj; subst hj; simp [Addr.add]
          | 3, hj => simp [It.cells] at hj; subst hj; simp [Addr.add]
          | 4, hj => simp [It.cells] at hj; subst hj; simp [Addr.add]
          | n + 5, hj => simp [It.cells] at hj
        case c2 => intro u hu; simp [It.cells] at hu; rcases hu with rfl | rfl | rfl | rfl | rfl <;> rfl
        case c3 => unfold maxLen; omega
        case c4 => omega
        case c5 => have := (unhide HS4).bel.size; simp; omega
        intro v5' w5 hown hg hrow
        have hS5 := ((unhide HS4).below' ((Below.refl _ _).alloc (Nat.le_refl _) (.cells #[.int .i64 x.who, .int .i64 x.kind, .int .i64 x.n, .int .u64 x.v, .string x.s] 35))).app5 (its' := (l.take k).filter fitB ++ [x]) hg (by rw [List.length_append, List.flatMap_append]; simpa using hown) hrow
        have HS5 := hide hS5
        clear hS5 hown hg hrow ho5 HS4 z0 z1 z2 z3 z4
        go_wp2_with fail
        refine (wLen w1.heap.size r' _ _ (unhide HS5).wr).mono ?_
        rintro e w6 ⟨rfl, rfl⟩
        obtain ⟨N, hN⟩ : ∃ N : Nat, N = (forms (l.take k) ++ x.form).length := ⟨_, rfl⟩
        rw [← hN]
        have HN := hide hN
        clear hN
        have ho4 := (unhide HS5).o4
        go_wp2_with (at_builtin; refine wpList_put _ rfl (.tmp 39) (.tmp 42) 31 rfl w.heap.size 3 iI _ 1 8 Tryd.underlying31 hiI hI0 hI1 hI2 rfl (by decide) _ _ _ rfl (ho4.alloc _) ⟨w6.heap.size, 0, none⟩ 1 1 [.int .i64 (N : Int)] rfl rfl ?c1 ?c2 ?c3 ?c4 ?c5 ?_)
        case c1 => intro j u hj; match j, hj with | 0, hj => simp at hj; subst hj; simp [Addr.add]
        case c2 => intro u hu; simp at hu; subst hu; rfl
        case c3 => rw [ends_length]; unfold maxLen; omega
        case c4 => rw [ends_length]; omega
        case c5 => have := (unhide HS5).bel.size; simp; omega
        intro v4' w7 hown hg hrow
        have hE : ends ((l.take k).filter fitB ++ [x]) = ends ((l.take k).filter fitB) ++ [(N : Int)] := by
          rw [ends_snoc, List.flatMap_append, ← forms_kept, unhide HN]; simp
        have hS7 := ((unhide HS5).below' ((Below.refl _ _).alloc (Nat.le_refl _) (.cells #[.int .i64 (N : Int)] 3))).app4 (es' := ends ((l.take k).filter fitB ++ [x])) hg (by rw [hE, List.length_append, List.map_append]; simpa using hown) hrow
        have HS7 := hide hS7
        clear hS7 hown hg hrow ho4 HS5 hE
        go_wp2
        go_roundw
        case rel =>
          refine ⟨k + 1, r', by omega, by go_num, hide ?_⟩
          have hforms : forms (l.take (k + 1)) = forms (l.take k) ++ x.form := by
            rw [forms_kept, kept_yes (unhide HXS) hf, List.flatMap_append, ← forms_kept]; simp
          rw [hforms, kept_yes (unhide HXS) hf]
          exact unhide HS7
        case measure => simp [intOf]; omega
      · have hf' : fitB x = false := by simpa using hf
        clear hf
        go_wp2
        go_roundw
        case rel =>
          refine ⟨k + 1, r, by omega, by go_num, hide ?_⟩
          have hforms : forms (l.take (k + 1)) = forms (l.take k) := by rw [forms_kept, kept_no (unhide HXS) hf', ← forms_kept]
          rw [hforms, kept_no (unhide HXS) hf']
          exact unhide HS3
        case measure => simp [intOf]; omega
    · have HF := hide (show l.take k = l from List.take_of_length_le (by rw [unhide HLL]; omega))
      rw [unhide HF] at HI
      go_wp2_with fail
      refine (wTold w1.heap.size r _ _ (unhide HI).wr).mono ?_
      rintro e w3 ⟨rfl, rfl⟩
      obtain ⟨s, hs, hsd⟩ : ∃ s : ByteArray, ({ data := (forms l).toArray } : ByteArray) = s ∧ s.data.toList = forms l := ⟨_, rfl, by simp⟩
      rw [hs]
      have hsz2 : s.size = (forms l).length := by rw [← size_toList, hsd]
      have HSD := hide hsd
      have hsl : s.size ≤ 2097152 := by omega
      have HS2 := hide hsz2
      clear hs hsd hsz2
      go_wp2_with fail
      refine (wLen w1.heap.size r _ _ (unhide HI).wr).mono ?_
      rintro e w3 ⟨rfl, rfl⟩
      rw [← unhide HS2]
      go_wp2_with fail
      refine (rNew s _).mono ?_
      rintro e w4 ⟨rfl, rfl⟩
      obtain ⟨a4, c4, h4⟩ := owns_shape (unhide HI).o4
      obtain ⟨a5, c5, h5⟩ := owns_shape (unhide HI).o5
      rw [ends_length] at h4
      have ho4 := (unhide HI).o4
      have ho5 := (unhide HI).o5
      have hbel := (unhide HI).bel
      clear HI HF
      subst h4 h5
      have HO4 := hide ho4
      have HO5 := hide ho5
      have hc0 := hbel.size
      have HR := hide (Rd.new s w3 77 (by omega))
      have hc1 : w3.heap.size < (w3.alloc (.cells #[.string s, .int .i64 0, .int .i64 0] 77)).heap.size := by simp
      have HB4 : Hid (Below w3.heap.size w3 (w3.alloc (.cells #[.string s, .int .i64 0, .int .i64 0] 77))) := (Below.refl _ _).alloc (Nat.le_refl _) _
      have HBW := hide hbel
      have hkn := kept_len l l.length
      rw [List.take_length] at hkn
      clear ho4 ho5 hbel
      generalize w3.alloc (.cells #[.string s, .int .i64 0, .int .i64 0] 77) = w4 at HR HB4 hc1 ⊢
      obtain ⟨its, hits⟩ : ∃ its, its = l.filter fitB := ⟨_, rfl⟩
      rw [← hits] at HO4 HO5 hkn ⊢
      have HITS := hide hits
      clear hits
      go_wp2
      go_loopw [9] (fun i wr => ∃ k : Nat, k ≤ its.length ∧ i = .int .i64 k ∧ Hid (Rd wr w3.heap.size s ((its.take k).flatMap It.form).length 0 ∧ Below w3.heap.size w3 wr)) (fun i _ => its.length - (intOf i).toNat)
      case atStart => exact ⟨0, Nat.zero_le _, rfl, hide ⟨by simpa using unhide HR, unhide HB4⟩⟩
      case round =>
        obtain ⟨k2, hk2, rfl, HI⟩ := hrel
        by_cases hlt2 : k2 < its.length
        · obtain ⟨x, hx⟩ : ∃ x, its[k2]? = some x := ⟨its[k2], List.getElem?_eq_getElem hlt2⟩
          have hxm : x ∈ l.filter fitB := by rw [← unhide HITS]; exact List.mem_of_getElem? hx
          have hxok := unhide HOK x (List.mem_filter.1 hxm).1
          have hxf := (List.mem_filter.1 hxm).2
          have hxw := wt_mem (List.mem_filter.1 hxm).1
          obtain ⟨g5, rfl⟩ : ∃ g5, a5 = some ⟨g5, 0, none⟩ := by
            rcases (unhide HO5).2 with ⟨h, hn⟩ | ⟨g, cp, cur, h, _⟩
            · omega
            · simp only [Value.slice.injEq] at h
              exact ⟨g, h.1⟩
          obtain ⟨g4, rfl⟩ : ∃ g4, a4 = some ⟨g4, 0, none⟩ := by
            rcases (unhide HO4).2 with ⟨h, hn⟩ | ⟨g, cp, cur, h, _⟩
            · rw [ends_length] at hn; omega
            · simp only [Value.slice.injEq] at h
              exact ⟨g, h.1⟩
          have hg5 : g5 < w3.heap.size := ((unhide HO5).lt g5 rfl).2
          have hg4 : g4 < w3.heap.size := ((unhide HO4).lt g4 rfl).2
          have hcell5 : ∀ (u : World), Below w3.heap.size w3 u → ∀ i, i < 5 → u.cell? ⟨g5, k2 * 5 + i, none⟩ = x.cells[i]? := fun u hu i hi => by
            rw [hu.cell (p := ⟨g5, k2 * 5 + i, none⟩) hg5, (unhide HO5).cellAt _ (by omega), cells_at hx i hi]
          have hcell4 : ∀ (u : World), Below w3.heap.size w3 u → u.cell? ⟨g4, k2 + 1, none⟩ = some (.int .i64 (((its.take (k2 + 1)).flatMap It.form).length : Nat)) := fun u hu => by
            have ho := unhide HO4
            rw [ends_length] at ho
            rw [hu.cell (p := ⟨g4, k2 + 1, none⟩) hg4, ho.cellAt _ (by omega), List.getElem?_map, ends_get its (k2 + 1) (by omega)]
            rfl
          have y0 := hcell5 _ (unhide HI).2 0 (by decide)
          have y1 := hcell5 _ (unhide HI).2 1 (by decide)
          have y2 := hcell5 _ (unhide HI).2 2 (by decide)
          have y3 := hcell5 _ (unhide HI).2 3 (by decide)
          have y4 := hcell5 _ (unhide HI).2 4 (by decide)
          simp only [It.cells, Nat.add_zero, List.getElem?_cons_zero, List.getElem?_cons_succ] at y0 y1 y2 y3 y4
          have HE4 := hide hcell4
          have y9 := hcell4 _ (unhide HI).2
          have HE5 : Hid (∀ (u : World), Below w3.heap.size w3 u → u.cell? ⟨g5, k2 * 5, none⟩ = some (.int .i64 x.who) ∧ u.cell? ⟨g5, k2 * 5 + 1, none⟩ = some (.int .i64 x.kind) ∧ u.cell? ⟨g5, k2 * 5 + 2, none⟩ = some (.int .i64 x.n) ∧ u.cell? ⟨g5, k2 * 5 + 3, none⟩ = some (.int .u64 x.v) ∧ u.cell? ⟨g5, k2 * 5 + 4, none⟩ = some (.string x.s)) := fun u hu => ⟨hcell5 u hu 0 (by decide), hcell5 u hu 1 (by decide), hcell5 u hu 2 (by decide), hcell5 u hu 3 (by decide), hcell5 u hu 4 (by decide)⟩
          have hfw : bkS x s ((its.take k2).flatMap It.form).length 0 = (true, ((its.take k2).flatMap It.form).length + x.form.length, 0) := by
            refine bk_fwd x hxok hxf (by omega) s _ (((its.drop (k2 + 1)).flatMap It.form)) (unhide HI).1.le ?_
            rw [unhide HSD, forms_kept, ← unhide HITS]
            exact drop_kept hx
          have hnext : ((its.take (k2 + 1)).flatMap It.form).length = ((its.take k2).flatMap It.form).length + x.form.length := by
            rw [take_succ' hx, List.flatMap_append, List.length_append]; simp
          have HBK := hide (back_walk x hxf (by omega) w3.heap.size w3.heap.size ((its.take k2).flatMap It.form).length s 0 _ (unhide HI).1.drew (by have := (unhide HI).2.size; simp; omega) (Nat.le_refl _))
          rw [hfw, ← hnext] at HBK
          simp only at HBK
          have hle1 : ((its.take (k2 + 1)).flatMap It.form).length ≤ s.size := by
            rw [unhide HS2, forms_kept, ← unhide HITS]
            have e : its.flatMap It.form = (its.take (k2 + 1)).flatMap It.form ++ (its.drop (k2 + 1)).flatMap It.form := by rw [← List.flatMap_append, List.take_append_drop]
            rw [e, List.length_append]; omega
          have HNX := hide hnext
          clear hfw hnext hcell5 hcell4 hx hxm hxok
          generalize hP1 : ((its.take (k2 + 1)).flatMap It.form).length = P1 at *
          have HP1 := hide hP1
          clear hP1
          have hwr1 : IntKind.i64.wrap ((s.size : Int) - (P1 : Int)) = (s.size : Int) - (P1 : Int) := by rw [IntKind.wrap_i64]; omega
          have hki : (k2 : Int) < (its.length : Int) := by omega
          have hkw : IntKind.i64.wrap ((k2 : Int) + 1) = (k2 : Int) + 1 := by rw [IntKind.wrap_i64]; omega
          have hk0 : (0 : Int) ≤ (k2 : Int) + 1 := by omega
          have hk1 : (k2 : Int) + 1 < (its.length : Int) + 1 := by omega
          have hkt : ((k2 : Int) + 1).toNat = k2 + 1 := by omega
          go_wp2
          go_region_held3 (fun u => u.cell? ⟨g4, k2 + 1, none⟩ = some (.int .i64 (P1 : Int)) ∧ u.cell? ⟨g5, k2 * 5, none⟩ = some (.int .i64 x.who) ∧ u.cell? ⟨g5, k2 * 5 + 1, none⟩ = some (.int .i64 x.kind) ∧ u.cell? ⟨g5, k2 * 5 + 2, none⟩ = some (.int .i64 x.n) ∧ u.cell? ⟨g5, k2 * 5 + 3, none⟩ = some (.int .u64 x.v) ∧ u.cell? ⟨g5, k2 * 5 + 4, none⟩ = some (.string x.s)) (first | go_keep | exact ⟨hE5, z0, z1, z2, z3, z4⟩) (first | (go_at_call 23; refine (unhide HBK).mono ?_; rintro e w5 ⟨rfl, hbk⟩; have hE5 := unhide HE4 w5 ((unhide HI).2.drew.trans hbk.2); obtain ⟨z0, z1, z2, z3, z4⟩ := unhide HE5 w5 ((unhide HI).2.drew.trans hbk.2); have H5 := hide hbk; clear hbk) | (go_at_call 24; refine (rErr w3.heap.size s P1 0 _ (unhide H5).1).mono ?_; rintro e w6 ⟨rfl, rfl⟩) | (go_at_call 25; refine (rAt w3.heap.size s P1 0 _ (unhide H5).1).mono ?_; rintro e w6 ⟨rfl, rfl⟩) | (go_at_call 26; refine (rLeft w3.heap.size s P1 0 _ (unhide H5).1).mono ?_; rintro e w6 ⟨rfl, m, rfl⟩))
          go_wp2
          go_roundw
          case rel => exact ⟨k2 + 1, by omega, by go_num, hide ⟨by rw [unhide HP1]; exact (unhide H5).1.drewN _, belowDrewN ((unhide HI).2.drew.trans (unhide H5).2) _⟩⟩
          case measure => simp [intOf]; omega
        · have hfin : ((its.take k2).flatMap It.form).length = s.size := by
            rw [List.take_of_length_le (by omega), unhide HS2, forms_kept, ← unhide HITS]
          rw [hfin] at HI
          go_wp2_with fail
          refine (rEnd w3.heap.size s _ 0 _ (unhide HI).1).mono ?_
          have he : endE s.size s.size 0 = 0 := by simp [endE]
          rw [he]
          rintro e5 w5 ⟨rfl, m, rfl⟩
          go_wp2
          go_ret
          exact ⟨rfl, belowDrewN ((unhide HBW).trans ((unhide HI).2.mono hc0)) m⟩
end Go.Proofs.YtpjepndeppckdaaDoor
