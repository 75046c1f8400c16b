/-
  The statement PackMany: rows one behind the other are read one by one. For every list of rows (of which the statement looks at the first eight, and of each at the first 310 cells); it holds where the table of widths is as its initialiser lays it, which the card ties to the program's text.
-/
import Derived.Test.YtikdlikdknfcfaaDoorBegun
import Derived.Test.YtikdlikdknfcfaaDoorBegun4
import Derived.Test.YtikdlikdknfcfaaDoorManyR
import Derived.Test.YtikdlikdknfcfaaDoorPut
import Derived.Test.YtikdlikdknfcfaaDoorGrow
import Derived.Test.YtikdlikdknfcfaaDoorFollows
import Derived.StillTailTactics
namespace Go.Proofs.YtikdlikdknfcfaaDoor.packMany
open Go.ChangeShapes Go.WideShapes Go.ChangeAt Go.RowKit

/-- The bytes of rows one behind the other. -/
def putAll (xs : List RowIn) : List Int := xs.flatMap fun x => putL x.wrap x.l
theorem putL_bytes {wrap : Bool} {l : List Cel} : ∀ x ∈ putL wrap l, 0 ≤ x ∧ x ≤ 255 := by
  intro x hx
  unfold putL at hx
  rcases List.mem_append.1 hx with h | h
  · exact uintL_bytes _ _ h
  · obtain ⟨y, _, h⟩ := List.mem_flatMap.1 h
    unfold runBytes at h
    simp only [List.mem_append] at h
    rcases h with h | h | h | h <;> exact uintL_bytes _ _ h
theorem putAll_bytes (xs : List RowIn) : ∀ y ∈ putAll xs, 0 ≤ y ∧ y ≤ 255 := fun y hy => by
  obtain ⟨x, _, h⟩ := List.mem_flatMap.1 hy
  exact putL_bytes y h
theorem putAll_len : ∀ (xs : List RowIn), (∀ x ∈ xs, mayL x.l = true ∧ ∀ c ∈ x.l, -2147483648 ≤ c.1 ∧ c.1 ≤ 2147483647) → (putAll xs).length ≤ 12010 * xs.length
  | [], _ => by simp [putAll]
  | x :: xs, h => by
    have ih := putAll_len xs (fun y hy => h y (List.mem_cons_of_mem _ hy))
    obtain ⟨h1, h2⟩ := h x (List.mem_cons_self ..)
    obtain ⟨a, b⟩ := mayL_small (fun c hc => (h2 c hc).2) h1
    have := putL_len (wrap := x.wrap) a b
    unfold putAll at ih ⊢
    rw [List.flatMap_cons, List.length_append, List.length_cons]
    omega

set_option maxRecDepth 100000 in
set_option maxHeartbeats 6400000 in
theorem walk (A : Option Addr) (n c : Nat) (l : List RowIn) (_ : n ≤ c) (_ : c ≤ maxLen) (w : World) (hs : Spans w) (hr : ∀ r ∈ l, r.Ok w w.heap.size) (hq : Sq w w.heap.size 2 n A (l.flatMap RowIn.vals)) :
    Calls Tryd.prog 14 #[.slice A n c] w fun e w' => e = .returned (.bool true) ∧ Below w.heap.size w w' := by
  have S := Lib.hid hs
  have Q := Lib.hid hq
  have RS := Lib.hid hr
  have hln : l.length = n := by have := hq.len; rw [flatMap_len RowIn.vals 2 (fun _ => rfl)] at this; omega
  have LN := Lib.hid hln
  clear hs hq hr hln
  go_enter Tryd.func14, Tryd.ntmps14
  go_wp2_with fail
  refine (begun4_walk w S.out).mono ?_
  rintro e w1 ⟨rfl, b1⟩
  have B1 := Lib.hid b1
  have S1 := Lib.hid (S.out.below b1 S.out.size)
  have Q1 := Lib.hid (Q.out.below b1)
  have RS1 := Lib.hid (fun r (h : r ∈ l) => (RS.out r h).below b1)
  have hz1 := b1.size
  clear b1 S Q RS
  obtain ⟨base, hbase⟩ : ∃ base, w1.heap.size = base := ⟨_, rfl⟩
  have HBS := Lib.hid hbase
  go_wp2_with fail
  go_loopw [4, 5, 6] (fun u4 u5 i wr => ∃ (k nb : Nat) (xs : List RowIn), i = .int .i64 k ∧ k ≤ n ∧ k ≤ 8 ∧ xs.length ≤ k ∧ Hid (wr.ownsRow base 5 1 u4 nb ((putAll xs).map (Value.int .u8))) ∧ Hid (RowsIn wr base u5 xs) ∧ Hid (∀ x ∈ xs, mayL x.l = true) ∧ Hid (Below base w1 wr)) (fun _ _ i _ => n - (intOf i).toNat)
  case atStart => exact ⟨0, 0, [], rfl, Nat.zero_le _, Nat.zero_le _, Nat.le_refl _, Lib.hid (World.ownsRow_nil _ _ _ _), Lib.hid (RowsIn.nothing _ _), Lib.hid (fun x h => by cases h), Lib.hid (Below.refl _ _)⟩
  case round =>
    obtain ⟨k, nb, xs, rfl, hk, hk8, hxk, O, W, M, B⟩ := hrel
    have hbz : base ≤ wr.heap.size := by have := B.out.size; omega
    by_cases hlt : k < n ∧ k < 8
    · obtain ⟨h1, h2⟩ := hlt
      obtain ⟨r, hr⟩ : ∃ r, l[k]? = some r := ⟨_, List.getElem?_eq_getElem (by rw [LN.out]; exact h1)⟩
      obtain ⟨b, off, rfl, hb, q0, q1⟩ := rows_at ((Q1.out.up hz1).below (by rw [hbase]; exact B.out)) hr h1
      have ok := ((RS1.out r (List.mem_of_getElem? hr)).up hz1).below (by rw [hbase]; exact B.out)
      obtain ⟨rA, rn, rc, rw_, rl⟩ := r
      have okl := ok.le
      have okc := ok.cap
      have OS := Lib.hid ok.signs
      have OQ := Lib.hid ok.sq
      simp only at q0 q1 okl okc OS OQ
      rw [hbase] at hb OQ
      have QQ := Lib.hid (And.intro q0 q1)
      clear hr ok
      obtain ⟨L, hL⟩ : ∃ L, cut310 rl = L := ⟨_, rfl⟩
      have SL : Hid (∀ c ∈ L, -2147483648 ≤ c.1 ∧ c.1 ≤ 2147483647) := Lib.hid (fun c h => OS.out c (List.mem_of_mem_take (by rw [← hL] at h; exact h)))
      have L310 : L.length ≤ 310 := by rw [← hL]; exact cut310_len rl
      have HLL := Lib.hid hL
      clear hL
      go_wp2_with fail
      refine (lawRow_walk rA rn rc rw_ rl wr (OQ.out.up hbz) okl okc).mono ?_
      rintro e w3 ⟨v3, rfl, hv, b3⟩
      rw [HLL.out] at hv
      obtain ⟨A3, c3, rfl, hc3⟩ := HasC.shape hv
      obtain ⟨m, hm⟩ : ∃ m, L.length = m := ⟨_, rfl⟩
      rw [hm] at hc3 hv L310 ⊢
      have VQ := Lib.hid (HasC.sq hv)
      have BB3 := Lib.hid b3
      clear q0 q1 hv hm b3
      go_wp2_with fail
      refine (put_walk A3 m c3 rw_ L w3 (S1.out.below (B.out.trans (BB3.out.mono hbz)) (by rw [← hbase]; exact S1.out.size)) SL.out VQ.out hc3 (by omega)).mono ?_
      rintro e w4 ⟨v6, rfl, h6, b4⟩
      obtain ⟨A6, c6, rfl⟩ := HasB.shape h6
      have B14 := Lib.hid (BB3.out.trans (b4.mono BB3.out.size))
      have B4 := Lib.hid (B.out.trans (B14.out.mono hbz))
      have W4 := Lib.hid (W.out.below B14.out)
      have O4 := Lib.hid (own_keep2 O.out (fun j e => B14.out.block j (World.ownsRow.lt O.out j e).2))
      have hz4 := B14.out.size
      obtain ⟨bb, hbb⟩ : ∃ bb, mayL L = bb := ⟨_, rfl⟩
      have MB := Lib.hid hbb
      rw [hbb]
      clear hbb b4 BB3 VQ W O B
      cases bb
      · clear h6
        generalize (putV rw_ L).length = pl
        go_wp2
        go_roundw
        case rel => exact ⟨k + 1, nb, xs, by go_num, by omega, by omega, by omega, O4, W4, M, B4⟩
        case measure => simp [intOf]; omega
      · rw [show putV rw_ L = putL rw_ L by unfold putV; rw [if_pos MB.out]] at h6 ⊢
        obtain ⟨ps1, ps2⟩ := mayL_small (fun c hc => (SL.out c hc).2) MB.out
        have PL := Lib.hid (putL_len (wrap := rw_) ps1 ps2)
        have HP6 := Lib.hid h6
        clear ps1 ps2 h6
        obtain ⟨pl, hpl⟩ : ∃ pl, (putL rw_ L).length = pl := ⟨_, rfl⟩
        have HPL := Lib.hid hpl
        rw [hpl] at HP6 PL ⊢
        clear hpl
        go_wp2_with fail
        have hnb : nb = (putAll xs).length := by have := O4.out.1; simpa using this.symm
        have hnb2 : nb ≤ 96080 := by
          have := putAll_len xs (fun x hx => ⟨M.out x hx, (W4.out.each x hx).2⟩)
          omega
        have hpl2 := PL.out
        have hqq := QQ.out
        refine Ord.start (S := fun w' => w'.cell? ⟨b, off + k * 2, none⟩ = some (.slice rA rn rc) ∧ w'.cell? ⟨b, off + k * 2 + 1, none⟩ = some (.bool rw_)) (n := 13) (by kernel_rfl) (by kernel_rfl) ⟨(B14.out.drew.cell (p := ⟨b, _, none⟩) (by show b < wr.heap.size; omega)).trans hqq.1, (B14.out.drew.cell (p := ⟨b, _, none⟩) (by show b < wr.heap.size; omega)).trans hqq.2⟩ ?_
        apply many_add (b0 := b) (o0 := off) (n0 := n) (c0 := c) (k := k) (m7 := pl) (c7 := c6) (base := base) (nb := nb) (BP := w4.heap.size) (rn := rn) (rc := rc) (A7 := A6) (rA := rA) (rw := rw_) (rl := rl) (bs := putAll xs) (pb := putL rw_ L) (xs := xs) (vb := u4) (vw := u5) (p1 := undef) (p2 := .bool false) (p3 := .bool true) (p8 := .bool true) (p9 := undef) (p10 := undef) (p11 := undef) (p12 := undef) (p13 := .bool true) (p14 := .bool true) (p15 := .bool false)
        case R => exact ⟨by kernel_rfl, by kernel_rfl⟩
        case hQ => exact fun _ _ _ _ _ h => h
        case hk => omega
        case hk0 => omega
        case hb0 => exact hb
        case hbase => show base ≤ w4.heap.size; omega
        case hS0 => exact ⟨(B14.out.drew.cell (p := ⟨b, _, none⟩) (by show b < wr.heap.size; omega)).trans hqq.1, (B14.out.drew.cell (p := ⟨b, _, none⟩) (by show b < wr.heap.size; omega)).trans hqq.2⟩
        case RQ => exact OQ.out.below (B14.out.mono hbz).drew
        case rle => exact okl
        case rcap => exact okc
        case rsig => exact OS.out
        case PQ => exact (HasB.sq HP6.out).below (Below.refl w4.heap.size w4).drew
        case HB => exact own_keep2 O4.out (fun _ _ => rfl)
        case HW => exact W4.out.below (Below.refl w4.heap.size w4).drew
        case hap => exact fun j e e2 => (bytes_typed O4.out j e).apart (W4.out.typed j e2) (by decide) rfl
        case fit1 => unfold maxLen; omega
        case fit2 => omega
        case fit3 => unfold maxLen; omega
        case fit4 => omega
        case F => exact ⟨rfl, rfl, rfl, rfl, rfl, rfl, rfl, rfl, rfl, rfl, rfl, rfl, rfl, rfl, rfl, rfl, rfl, rfl, rfl, rfl, rfl, rfl, rfl, rfl, rfl, rfl, rfl, rfl, rfl, rfl, rfl, rfl, rfl, rfl, rfl, rfl, rfl, rfl, rfl, rfl, rfl, rfl, rfl, rfl, rfl, rfl, rfl, rfl, rfl, rfl, rfl, rfl, rfl, rfl, rfl⟩
        case f4 => exact rfl
        case f5 => exact rfl
        intro a2 w5 vb' vw' A7 d7 F f4 f5 HB5 HW5 B5
        have O5 := Lib.hid (show w5.ownsRow base 5 1 vb' (nb + pl) ((putAll (xs ++ [⟨A7, (cut310 rl).length, d7, rw_, cut310 rl⟩])).map (Value.int .u8)) by
          unfold putAll at HB5 ⊢
          rw [List.flatMap_append, List.map_append, HLL.out]
          simpa [List.flatMap_cons] using HB5)
        have W5 := Lib.hid HW5
        have M5 := Lib.hid (show ∀ x ∈ xs ++ [⟨A7, (cut310 rl).length, d7, rw_, cut310 rl⟩], mayL x.l = true from fun x hx => by
          rcases List.mem_append.1 hx with hx | hx
          · exact M.out x hx
          · rw [List.mem_singleton.1 hx]
            show mayL (cut310 rl) = true
            rw [HLL.out]; exact MB.out)
        have B6 := Lib.hid (B4.out.trans ((Below.refl base w4).drew.trans B5))
        refine many_frame F.size F.defers F.s0 F.s1 F.s2 F.s3 f4 f5 F.s6 F.s7 F.s8 F.s9 F.s10 F.s11 F.s12 F.s13 F.s14 F.s15 F.s47 F.s48 F.s49 F.s50 F.s51 F.s52 F.s53 F.s54 F.s55 F.s56 F.s57 F.s58 F.s59 F.s60 F.s61 F.s62 F.s63 F.s64 F.s65 F.s66 F.s67 F.s68 F.s69 F.s70 F.s71 F.s72 F.s73 F.s74 F.s75 F.s76 F.s77 F.s78 F.s79 F.s80 F.s81 F.s82 F.s83 F.s84 F.s85 ?_
        intros
        clear F f4 f5 HB5 HW5 B5 hqq hnb
        go_wp2
        go_roundw
        case rel => exact ⟨k + 1, nb + pl, xs ++ [⟨A7, (cut310 rl).length, d7, rw_, cut310 rl⟩], by go_num, by omega, by omega, by rw [List.length_append]; simp; omega, O5, W5, M5, B6⟩
        case measure => simp [intOf]; omega
    · have hex : (k < n ∧ 8 ≤ k) ∨ n ≤ k := by omega
      obtain ⟨AW, cW, rfl, hcW⟩ := RowsIn.shape W.out
      obtain ⟨q, hq⟩ : ∃ q, xs.length = q := ⟨_, rfl⟩
      have XL := Lib.hid hq
      rw [hq] at hxk hcW W ⊢
      have hnb : nb = (putAll xs).length := by have := O.out.1; simpa using this.symm
      have hnb2 : nb ≤ 96080 := by
        have := putAll_len xs (fun x hx => ⟨M.out x hx, (W.out.each x hx).2⟩)
        omega
      obtain ⟨AB, cB, rfl⟩ := own_shape O.out
      have hcB : nb ≤ cB := by
        rcases Nat.eq_zero_or_pos nb with h0 | h0
        · omega
        · obtain ⟨g, c', ev, h1, _⟩ := own_at O.out h0
          injection ev with e1 e2 e3
          omega
      have QB := Lib.hid (show Sq wr wr.heap.size 1 nb AB ((putAll (xs.drop 0)).map (Value.int .u8)) from Sq.own O.out)
      have SR := Lib.hid (S1.out.below B.out (by rw [← hbase]; exact S1.out.size))
      clear O hq hnb hlt
      rename World => wo
      rcases hex with ⟨h1, h2⟩ | h1
      all_goals
        go_wp2_with fail
        go_loopw [4, 9] (fun u4 i wx => ∃ (j m : Nat) (A' : Option Addr) (c' : Nat), u4 = .slice A' m c' ∧ i = .int .i64 j ∧ j ≤ q ∧ m ≤ c' ∧ m ≤ 96080 ∧ Hid (Sq wo wo.heap.size 1 m A' ((putAll (xs.drop j)).map (Value.int .u8))) ∧ Hid (Below wo.heap.size wo wx)) (fun _ i _ => q - (intOf i).toNat)
        case atStart => exact ⟨0, nb, AB, cB, rfl, rfl, Nat.zero_le _, hcB, hnb2, QB, Lib.hid (Below.refl _ _)⟩
        case round =>
          obtain ⟨j, m, A', c', rfl, rfl, hj, hmc, hm9, QR, BX⟩ := hrel
          by_cases hlt : j < q
          · obtain ⟨x, hx⟩ : ∃ x, xs[j]? = some x := ⟨_, List.getElem?_eq_getElem (by rw [XL.out]; exact hlt)⟩
            have hdrop : putAll (xs.drop j) = putL x.wrap x.l ++ putAll (xs.drop (j + 1)) := by
              obtain ⟨h1, h2⟩ := List.getElem?_eq_some_iff.1 hx
              rw [List.drop_eq_getElem_cons h1, h2]
              unfold putAll
              rw [List.flatMap_cons]
            have hxm := List.mem_of_getElem? hx
            have hmx := M.out x hxm
            obtain ⟨xo, xsig⟩ := W.out.each x hxm
            obtain ⟨p1, p2⟩ := mayL_small (fun c hc => (xsig c hc).2) hmx
            have hget := getR_put (may := mayL) (wrap := x.wrap) (putAll (xs.drop (j + 1))) hmx p2 p1
            have HG := Lib.hid (gotR_some hget)
            have hpos : 1 ≤ (putL x.wrap x.l).length := by
              unfold putL
              rw [List.length_append]
              have := uintL_pos (headOf x.wrap (runsOf x.l).length)
              omega
            have hml := QR.out.size_ints
            rw [hdrop, List.length_append] at hml
            rw [hdrop] at QR
            obtain ⟨pn, hpn⟩ : ∃ pn, (putL x.wrap x.l).length = pn := ⟨_, rfl⟩
            have HPN := Lib.hid hpn
            rw [hpn] at HG hpos hml
            obtain ⟨g, cg, ev, hqc, hgb, hgl, y0, y1⟩ := W.out.get hx
            injection ev with e1 e2 e3
            subst e1 e3
            clear e2 hdrop hget hpn hqc
            obtain ⟨xA, xn, xc, xw, xl⟩ := x
            simp only at HG xo xsig p1 y0 y1 HPN hmx p2
            have hxn : xl.length = xn := by
              obtain ⟨A0, c0, e, _⟩ := HasC.shape xo
              injection e with _ e _
              exact e.symm
            have XQ := Lib.hid (HasC.sq xo)
            have Y0 := Lib.hid (And.intro y0 y1)
            have RB := Lib.hid (show ∀ y ∈ putL xw xl ++ putAll (xs.drop (j + 1)), 0 ≤ y ∧ y ≤ 255 from fun y hy => (List.mem_append.1 hy).elim (putL_bytes y) (putAll_bytes _ y))
            obtain ⟨bb, off, rfl, hbb, hcell⟩ := QR.out.spot (by omega)
            clear hcell hx hxm xo xsig y0 y1 hmx p2
            go_wp2_with fail
            refine (get_walk (some ⟨bb, off, none⟩) m c' (putL xw xl ++ putAll (xs.drop (j + 1))) wr (SR.out.below BX.out SR.out.size) ((QR.out.below BX.out).up BX.out.size) hmc (by omega) RB.out).mono ?_
            rintro e w3 ⟨v3, rfl, hv, b3⟩
            rw [HG.out] at hv ⊢
            simp only at hv ⊢
            obtain ⟨A3, c3, rfl, hc3⟩ := HasC.shape hv
            rw [hxn] at hv hc3 ⊢
            have VQ := Lib.hid (HasC.sq hv)
            have BX3 := Lib.hid (BX.out.trans (b3.mono BX.out.size))
            clear hv b3 BX
            have ba := (Below.refl w3.heap.size w3).alloc (Nat.le_refl _) (.cells #[.slice A3 xn c3, .bool xw] 31)
            obtain ⟨g10, hg10⟩ : ∃ g10, w3.heap.size = g10 := ⟨_, rfl⟩
            have R10 := Lib.hid (show RowAt (w3.alloc (.cells #[.slice A3 xn c3, .bool xw] 31)) g10 (.slice A3 xn c3) xw by rw [← hg10]; exact heap_alloc_new w3 _)
            have BX4 := Lib.hid (BX3.out.alloc BX3.out.size (.cells #[.slice A3 xn c3, .bool xw] 31))
            have VQ4 := Lib.hid ((VQ.out.below ba).up ba.size)
            clear ba BX3 VQ
            go_wp2_with fail
            generalize w3.alloc (.cells #[.slice A3 xn c3, .bool xw] 31) = w4 at R10 BX4 VQ4 ⊢
            have r0 : w4.drew.cell? ⟨g10, 0, none⟩ = some (.slice A3 xn c3) := R10.out.get 0
            have r1 : w4.drew.cell? ⟨g10, 1, none⟩ = some (.bool xw) := R10.out.get 1
            have y0 : w4.drew.cell? ⟨g, j * 2, none⟩ = some (.slice xA xn xc) := (BX4.out.cell (p := ⟨g, j * 2, none⟩) hgl).trans Y0.out.1
            have y1 : w4.drew.cell? ⟨g, j * 2 + 1, none⟩ = some (.bool xw) := (BX4.out.cell (p := ⟨g, j * 2 + 1, none⟩) hgl).trans Y0.out.2
            have hpb : decide ((pn : Int) < 1) = false := by simp; omega
            have hpb2 : decide ((m : Int) < (pn : Int)) = false := by simp; omega
            have hple : pn ≤ m := by omega
            have hnlt : ¬ (m < pn) := by omega
            have hpb3 : decide (m < pn) = false := by simp; omega
            have hjq : (j : Int) < (q : Int) := by omega
            have hj0 : (0 : Int) ≤ (j : Int) := by omega
            have R5 := Lib.hid (show RowAt w4.drew g10 (.slice A3 xn c3) xw from R10.out)
            have BX5 := Lib.hid BX4.out.drew
            have VQ5 := Lib.hid (show Sq w4.drew w4.drew.heap.size 3 xn A3 (flat xl) from VQ4.out.below (Below.refl w4.heap.size w4).drew)
            clear R10 BX4 VQ4
            refine wp_region_still_tail 18 (by kernel_rfl) (by kernel_rfl) ?_
            rw [show ({ w4 with drawn := w4.drawn + 1 } : World) = w4.drew from rfl]
            generalize w4.drew = w5 at R5 BX5 VQ5 r0 r1 y0 y1 ⊢
            simp only [List.take_succ_cons, List.take_zero, List.drop_succ_cons, List.drop_zero]
            repeat still_step
            refine wpStill_nil ?_
            go_wp2_with fail
            refine (eqRow_walk A3 xA xn c3 xn xc xw xw xl xl w5 (by omega) (by omega) VQ5.out ((XQ.out.below BX5.out).up BX5.out.size)).mono ?_
            rintro e w6 ⟨rfl, b6⟩
            rw [show (xw == xw && eqL xl xl) = true by simp [eqL]]
            have BX6 := Lib.hid (BX5.out.trans (b6.mono BX5.out.size))
            have hpc : pn ≤ c' := by omega
            clear b6 BX5 VQ5 R5 r0 r1 y0 y1
            obtain ⟨m', hm'⟩ : ∃ m', m - pn = m' := ⟨_, rfl⟩
            have QN : Sq wo wo.heap.size 1 m' (some ⟨bb, off + pn, none⟩) ((putAll (xs.drop (j + 1))).map (Value.int .u8)) := by
              refine ⟨by rw [List.length_map]; omega, fun h0 => ?_⟩
              obtain ⟨b2, o2, e, hb2, hc2⟩ := QR.out.spot (by omega)
              injection e with e
              injection e with e1 e2 _
              subst e1 e2
              refine ⟨bb, off + pn, rfl, hb2, fun t u hu => ?_⟩
              have := hc2 (pn + t) u (by rw [List.map_append, List.getElem?_append_right (by rw [List.length_map, HPN.out]; omega), List.length_map, HPN.out, Nat.add_sub_cancel_left]; exact hu)
              rw [← Nat.add_assoc] at this
              exact this
            have QNH := Lib.hid QN
            have hQ0 := Lib.hid (show c' = pn → m' = 0 by omega)
            clear QN
            by_cases hcp : c' = pn
            · have hm0 : m' = 0 := by omega
              go_wp2
              go_roundw
              case rel => exact ⟨j + 1, 0, some ⟨bb, off, none⟩, 0, rfl, by go_num, by omega, Nat.le_refl _, by omega, Lib.hid ⟨by have := QNH.out.len; omega, fun h => absurd h (Nat.lt_irrefl 0)⟩, BX6⟩
              case measure => simp [intOf]; omega
            · go_wp2
              go_roundw
              case rel => exact ⟨j + 1, m', some ⟨bb, off + pn, none⟩, c' - pn, rfl, by go_num, by omega, by omega, by omega, QNH, BX6⟩
              case measure => simp [intOf]; omega
          · have hjq : j = q := by omega
            have hm0 : m = 0 := by
              have h := QR.out.len
              rw [hjq, ← XL.out, List.drop_length] at h
              simp [putAll] at h
              omega
            subst hm0
            go_wp2
            go_ret
            exact ⟨rfl, B1.out.trans ((B.out.trans (BX.out.mono hbz)).mono (by omega))⟩

-- WHAT THE WALK GIVES, FOR EVERY ARGUMENT AND EVERY WORLD THAT HOLDS THE TABLE.
set_option maxRecDepth 100000 in
theorem contract (H : Type) (enc : TypeId × Value → H) (W : World) (base : Nat) (args : Array Value) (ds gs : List (DataW H)) (before : List MemPlace)
    (hval : ∀ (j : Nat) t v, Tryd.f14.params[j]? = some t → args[j]? = some v → Value.okWide Tryd.prog W .any base t v)
    (hW : DataW.Whole enc Tryd.prog Tryd.f14.params.toList Rows.packManySpec.vars false W args.toList ds gs before) (hL : laidMetH Tryd.prog Rows.packManyRow.laid W) :
    Calls Tryd.prog 14 args W fun e W' => ∃ v, e = .returned v ∧ Rows.packManySpec.post enc Tryd.prog Tryd.f14 false true false false W args v W' := by
  have hW' := hW
  obtain ⟨p, q, hA0, hV, rfl, hfz, hnd⟩ := hW
  have hA : DataW.TrodAll enc Tryd.prog W 0 (fun _ => true) true Tryd.f14.params.toList args.toList ds p := hA0
  rw [Tryd.params14] at hA hval
  obtain ⟨v0, vs0, d0, ds0, p0, q0, hargs, rfl, rfl, h0, r0⟩ := trodAll_cons hA
  obtain ⟨rfl, rfl, rfl⟩ := trodAll_nil r0
  obtain rfl : args = #[v0] := by cases args; simp_all
  obtain ⟨rfl, rfl⟩ := trodVars_none hV
  obtain ⟨Ax, nx, cx, x, rfl, hcx, hmx, hrx, hqx⟩ := open_rows (hval 0 47 v0 rfl rfl) h0
  clear hA0
  refine (walk Ax nx cx x hcx hmx W (spans_of hL) hrx hqx).mono fun e W' ⟨he, hg⟩ => ?_
  subst he
  exact ⟨_, rfl, close rfl hW' ⟨rfl, rfl, rfl⟩ (by kernel_rfl) (by kernel_rfl) hg⟩

set_option maxRecDepth 100000 in
theorem laid_met (os : Os) : laidMet Tryd.prog Rows.packManyRow.laid ((laidWorld os).forCall (fun _ _ => 0) ⟨#[], #[.slice none 0 0], []⟩).memory :=
  laidMet_of_run' 8 (by kernel_rfl) (by kernel_rfl)
set_option maxRecDepth 100000 in
theorem reads (os : Os) {H : Type} (enc : TypeId × Value → H) : ∃ places, DataW.whole enc Tryd.prog ((laidWorld os).forCall (fun _ _ => 0) ⟨#[], #[.slice none 0 0], []⟩).memory Tryd.f14.params.toList Rows.packManySpec.vars false (#[.slice none 0 0] : Array Value).toList 8 = some ([.nil], [], places) :=
  ⟨[], by kernel_rfl⟩

set_option maxRecDepth 100000 in
theorem lifted (os : Os) (started : os.Started) (H : Type) (enc : TypeId × Value → H) (F : Stop.Interp) :
    ReturnsInHanded {} Tryd.checked os 14 .any ((OpenSpec.ofChange Rows.packManySpec).preRow enc Tryd.prog Tryd.f14 Rows.packManyRow.domain false Rows.packManyRow.laid) (((OpenSpec.ofChange Rows.packManySpec).at F).post enc Tryd.prog Tryd.f14 false true false false) := by
  obtain ⟨places, hx⟩ := reads os enc
  refine returnsInHanded_of_row (C := Tryd.checked) (s := OpenSpec.ofChange Rows.packManySpec) ownNone started (by kernel_rfl) Tryd.func14
    (witness_row_at (enc := enc) (C := Tryd.checked) false (laidWorld os) #[.slice none 0 0] rfl (by kernel_rfl) (by kernel_rfl) (by kernel_rfl)
      (OpenSpec.preRow_of_cond 8 hx (by kernel_rfl) (fun k hk => by cases hk) (by kernel_rfl) (laid_met os))) ?_
  intro W base args ds gs before hval hW _ _ _ hL _ _
  exact contract H enc W base args ds gs before hval hW hL

set_option maxRecDepth 100000 in
theorem said : Rows.PackManySaid :=
  OpenClaim.holds_of_cond 14 Tryd.f14 rfl rfl rfl rfl rfl rfl rfl ⟨rfl, rfl, rfl, rfl, rfl⟩ rfl rfl rfl rfl rfl (by kernel_rfl) Tryd.func14 (by kernel_rfl)
    (of_decide_eq_true (by kernel_rfl)) (by unfold Func.isWrapper; first | (rw [if_pos (by decide +kernel)]; kernel_rfl) | (rw [if_neg (by decide +kernel)]; exact ⟨rfl, rfl⟩))
    (fun os started H enc _ F => by rw [OpenClaim.pre_eq_preRow]; exact lifted os started H enc F)

-- No parameter wants a stand-in; the program's own looks are off: what the card asks.
set_option maxRecDepth 100000 in
theorem plain (f : FuncId) (fn : Func) (hf : Tryd.pinned.checked.prog.funcNamed "rotulus/rotuluslaw4.PackMany" = some f) (hfn : Tryd.pinned.checked.prog.funcs[f]? = some fn) :
    false = Tryd.pinned.checked.prog.looks [] ∧ ∀ (j : Nat) t, fn.params[j]? = some t → Tryd.pinned.checked.prog.wantsStandIn t = false := by
  obtain rfl : f = 14 := Option.some.inj ((show Tryd.prog.funcNamed "rotulus/rotuluslaw4.PackMany" = some 14 by kernel_rfl).symm.trans hf) |>.symm
  obtain rfl : fn = Tryd.f14 := (Option.some.inj (Tryd.func14.symm.trans hfn)).symm
  refine ⟨by kernel_rfl, fun j t ht => ?_⟩
  rw [Tryd.params14] at ht
  have hm := Array.mem_of_getElem? ht
  simp at hm
  subst hm
  exact (show Tryd.prog.wantsStandIn 47 = false by kernel_rfl)

-- The card.
set_option maxRecDepth 100000 in
theorem card : Rows.PackManyCardSaid :=
  Claim7.holds_tied_plain_at .later [] _ _ _ _ said (fun _ h => by cases h) (by kernel_rfl) (fun _ h => by cases h) packMany_row_tie rfl ⟨rfl, rfl⟩ (by kernel_rfl) rfl plain (by kernel_rfl)
end Go.Proofs.YtikdlikdknfcfaaDoor.packMany
