/-
  Texts that the laws stand on: Url10, Url11, UrlM, UrlH, Rep1.
-/
import Derived.Test.YtfgaikacijdodaaGreatDoorM4
import Derived.Lib.SplitLaws
import Derived.Lib.ItoaNum

/-
  A parsed URL's print is parsed to itself, also with something behind a number sign: plain lists; nothing runs here.
-/
namespace Go.Proofs.YtfgaikacijdodaaGreatDoor
set_option linter.unusedVariables false
set_option linter.unusedSimpArgs false
set_option maxRecDepth 20000

/-- A URL as Parse tells it. -/
structure UL.Norm (u : UL) : Prop where
  fine : u.Fine
  pathOk : PathOk u.path
  queryOk : QueryOk u.query
  portOk : u.port ≤ 65535
  portOwn : u.port ≠ ownI u.sch
theorem ownI_pos (s : List Int) : 0 < ownI s := by unfold ownI; split <;> decide
theorem parseI_norm {l : List Int} (hB : Byt l) {u : UL} (h : parseI l = some u) : u.Norm := by
  have hf := parseI_fine hB h
  unfold parseI at h
  rw [Option.bind_eq_some_iff] at h
  obtain ⟨⟨sch, r⟩, hs, h⟩ := h
  have hsr := schemeI_is hs
  have hrB : Byt r := by
    have ht : Byt (trimI l) := fun x hx => hB x ((trimI_sub l).subset hx)
    rcases hsr with ⟨_, rfl⟩ | ⟨_, rfl⟩ <;> exact byt_drop ht _
  unfold hostI at h
  simp only at h
  split at h
  · rw [Option.bind_eq_some_iff] at h
    obtain ⟨⟨port, rest2⟩, hp, h⟩ := h
    simp only at h
    have hpr : port ≤ 65535 ∧ port ≠ ownI sch ∧ Byt rest2 := by
      have hrb : Byt (behind [58, 47, 63, 35] r) := behind_byt hrB
      have hop := ownI_pos sch
      unfold portI at hp
      split at hp
      · rw [Option.bind_eq_some_iff] at hp
        obtain ⟨n, hn, hp⟩ := hp
        split at hp
        · cases hp
        · rename_i hbig
          injection hp with hp
          injection hp with hp1 hp2
          subst hp2
          refine ⟨?_, ?_, behind_byt (byt_drop hrb 1)⟩
          · rw [← hp1]; split <;> omega
          · rw [← hp1]; split
            · omega
            · assumption
      · injection hp with hp
        injection hp with hp1 hp2
        subst hp1 hp2
        exact ⟨by omega, by omega, hrb⟩
    unfold restI at h
    simp only at h
    split at h
    · cases h
    · cases h
      exact ⟨hf, dotsI_ok (ahead_byt (ahead_byt hpr.2.2)), queryI_ok _ (behind_byt (ahead_byt hpr.2.2)), hpr.1, hpr.2.1⟩
  · cases h
/-! ### reading the print -/
/-- Nothing, or a number sign and what is behind it. -/
def Frag (f : List Int) : Prop := f = [] ∨ ∃ r, f = 35 :: r
theorem HostOk.mem {h : List Int} (hh : HostOk h) : ∀ x ∈ h, HB x := by
  intro x hx
  obtain ⟨k, hk, e⟩ := List.getElem_of_mem hx
  have := (hh.2.2.2.2 k hk).1
  rw [List.getD_eq_getElem?_getD, List.getElem?_eq_getElem hk, Option.getD_some, e] at this
  exact this
theorem HostOk.low {h : List Int} (hh : HostOk h) : lowL h = h := by
  unfold lowL
  conv => rhs; rw [← List.map_id h]
  apply List.map_congr_left
  intro x hx
  have := hh.mem x hx
  unfold HB at this
  show lowI x = x
  unfold lowI
  rw [if_neg (by omega)]
def portT (u : UL) : List Int := if 0 < u.port then 58 :: digs u.port.toNat else []
theorem printI_parts (u : UL) : printI u = u.sch ++ ([58, 47, 47] ++ (u.host ++ (portT u ++ (u.path ++ u.query)))) := by
  unfold printI originI portT
  simp [List.append_assoc]
theorem printI_ascii {u : UL} (h : u.Norm) : ∀ x ∈ printI u, 33 ≤ x ∧ x ≤ 126 := by
  intro x hx
  rw [printI_parts] at hx
  simp only [List.mem_append] at hx
  rcases hx with hx | hx | hx | hx | hx | hx
  · rcases h.fine.sch with e | e <;> rw [e] at hx
    · simp [httpI] at hx; omega
    · simp [httpsI] at hx; omega
  · simp at hx; omega
  · have := h.fine.host.mem x hx; unfold HB at this; omega
  · unfold portT at hx
    split at hx
    · rcases List.mem_cons.1 hx with rfl | hx
      · omega
      · have := digs_dig _ x hx; omega
    · cases hx
  · have := h.pathOk.plain.rng x hx; omega
  · rcases h.queryOk with e | ⟨r, _, e, hp⟩ <;> rw [e] at hx
    · cases hx
    · rcases List.mem_cons.1 hx with rfl | hx
      · omega
      · have := hp.rng x hx; omega
theorem printI_head (u : UL) (h : u.Norm) : ∃ r, printI u = 104 :: r := by
  rw [printI_parts]
  rcases h.fine.sch with e | e <;> rw [e]
  · exact ⟨_, rfl⟩
  · exact ⟨_, rfl⟩
/-- Blanks behind a number sign alone are trimmed. -/
theorem trim_frag {p f : List Int} (hp : ∀ x ∈ p, 33 ≤ x ∧ x ≤ 126) (hne : p ≠ []) (hf : Frag f) : ∃ f', Frag f' ∧ trimI (p ++ f) = p ++ f' := by
  have hfirst : (p ++ f).dropWhile blank = p ++ f := by
    obtain ⟨x, r, rfl⟩ := List.exists_cons_of_ne_nil hne
    have := hp x (.head _)
    rw [List.cons_append, List.dropWhile_cons_of_neg (by unfold blank; simp; omega)]
  unfold trimI
  rw [hfirst, List.reverse_append, List.dropWhile_append]
  have hpr : p.reverse.dropWhile blank = p.reverse := by
    have hne2 : p.reverse ≠ [] := by simpa using hne
    obtain ⟨x, r, e⟩ := List.exists_cons_of_ne_nil hne2
    have hx : x ∈ p := by rw [← List.mem_reverse, e]; exact .head _
    have := hp x hx
    rw [e, List.dropWhile_cons_of_neg (by unfold blank; simp; omega)]
  rcases hf with rfl | ⟨r, rfl⟩
  · refine ⟨[], .inl rfl, ?_⟩
    simp [hpr]
  · have hx : ∃ g, ((35 :: r).reverse.dropWhile blank) = g ++ [35] := by
      rw [List.reverse_cons, List.dropWhile_append]
      split
      · exact ⟨[], by rw [List.dropWhile_cons_of_neg (by decide)]; rfl⟩
      · exact ⟨_, rfl⟩
    obtain ⟨g, hg⟩ := hx
    refine ⟨35 :: g.reverse, .inr ⟨_, rfl⟩, ?_⟩
    rw [hg]
    simp
theorem host_stops {h : List Int} (hh : HostOk h) : ∀ y ∈ h, ([58, 47, 63, 35] : List Int).contains y = false := by
  intro y hy
  have := hh.mem y hy
  unfold HB at this
  apply contains_no
  intro k hk e
  match k, hk, e with
  | 0, _, e => simp at e; omega
  | 1, _, e => simp at e; omega
  | 2, _, e => simp at e; omega
  | 3, _, e => simp at e; omega
  | (k + 4), hk, _ => simp only [List.length_cons, List.length_nil] at hk; omega
theorem portI_print {u : UL} (h : u.Norm) {t : List Int} (ht : ∃ r, t = 47 :: r) : portI u.sch (portT u ++ t) = some (u.port, t) := by
  obtain ⟨r, rfl⟩ := ht
  have hp0 := h.fine.port0
  have hp1 := h.portOk
  unfold portT
  by_cases h0 : 0 < u.port
  · rw [if_pos h0]
    have hb : begI [58] ((58 :: digs u.port.toNat) ++ 47 :: r) = true := by rw [begI_iff]; rfl
    have hdn : ∀ y ∈ digs u.port.toNat, ([47, 63, 35] : List Int).contains y = false := by
      intro y hy
      have := digs_dig _ y hy
      apply contains_no
      intro k hk e
      match k, hk, e with
      | 0, _, e => simp at e; omega
      | 1, _, e => simp at e; omega
      | 2, _, e => simp at e; omega
      | (k + 3), hk, _ => simp only [List.length_cons, List.length_nil] at hk; omega
    have hst := ahead_stop (r := r) hdn (show ([47, 63, 35] : List Int).contains 47 = true by decide)
    have hd1 : ((58 :: digs u.port.toNat) ++ 47 :: r).drop 1 = digs u.port.toNat ++ 47 :: r := rfl
    unfold portI
    rw [if_pos hb, hd1, hst.1, hst.2]
    have hlen := digs_len u.port.toNat
    have hsh := digs_short (n := u.port.toNat) (by omega)
    have hfig : figI (digs u.port.toNat) 1 5 = some u.port := by
      unfold figI
      rw [if_pos ⟨by omega, by omega, digs_dig _⟩, fig_digs (by omega)]
      congr 1; omega
    rw [hfig]
    show (if 65535 < u.port then none else some (if u.port = ownI u.sch then 0 else u.port, 47 :: r)) = _
    rw [if_neg (by omega), if_neg h.portOwn]
  · rw [if_neg h0, List.nil_append]
    have hz : u.port = 0 := by omega
    unfold portI
    rw [if_neg (by rw [begI_iff]; simp), hz]
theorem restI_print {u : UL} (h : u.Norm) {f : List Int} (hf : Frag f) : restI u.sch u.host u.port (u.path ++ (u.query ++ f)) = some u := by
  have hpp := h.pathOk.plain.rng
  have hq35 : ∀ y ∈ u.path ++ u.query, ([35] : List Int).contains y = false := by
    intro y hy
    have : y ≠ 35 := by
      rcases List.mem_append.1 hy with hy | hy
      · have := hpp y hy; omega
      · rcases h.queryOk with e | ⟨r, _, e, hp⟩ <;> rw [e] at hy
        · cases hy
        · rcases List.mem_cons.1 hy with rfl | hy
          · omega
          · have := hp.rng y hy; omega
    simpa using this
  have h1 : ahead [35] (u.path ++ (u.query ++ f)) = u.path ++ u.query := by
    rw [← List.append_assoc]
    rcases hf with rfl | ⟨r, rfl⟩
    · rw [List.append_nil]; exact (ahead_full hq35).1
    · exact (ahead_stop hq35 (by decide)).1
  have hp63 : ∀ y ∈ u.path, ([63] : List Int).contains y = false := by
    intro y hy
    have := hpp y hy
    have h2 : y ≠ 63 := by omega
    simpa using h2
  have h2 : ahead [63] (u.path ++ u.query) = u.path ∧ behind [63] (u.path ++ u.query) = u.query := by
    rcases h.queryOk with e | ⟨r, _, e, hp⟩ <;> rw [e]
    · rw [List.append_nil]; exact ahead_full hp63
    · exact ahead_stop hp63 (by decide)
  unfold restI
  rw [h1]
  simp only
  rw [h2.1, h2.2, dotsI_same h.pathOk, queryI_same h.queryOk]
  have hs := h.fine.short
  obtain ⟨a, b, c, d, e⟩ := u
  simp only at hs ⊢
  rw [if_neg (by omega)]
theorem parseI_print {u : UL} (h : u.Norm) {f : List Int} (hf : Frag f) : parseI (printI u ++ f) = some u := by
  obtain ⟨r0, hr0⟩ := printI_head u h
  obtain ⟨f', hf', ht⟩ := trim_frag (printI_ascii h) (by rw [hr0]; simp) hf
  unfold parseI
  rw [ht]
  have hsch : schemeI (printI u ++ f') = some (u.sch, u.host ++ (portT u ++ (u.path ++ (u.query ++ f')))) := by
    rw [printI_parts]
    unfold schemeI
    rcases h.fine.sch with e | e <;> rw [e]
    · have hb : begI (httpI ++ [58, 47, 47]) (lowL (httpI ++ ([58, 47, 47] ++ (u.host ++ (portT u ++ (u.path ++ u.query)))) ++ f')) = true := by rw [begI_iff]; rfl
      rw [if_pos hb]
      simp [httpI, List.append_assoc]
    · have hb1 : begI (httpI ++ [58, 47, 47]) (lowL (httpsI ++ ([58, 47, 47] ++ (u.host ++ (portT u ++ (u.path ++ u.query)))) ++ f')) = false := by
        rw [← Bool.not_eq_true, begI_iff]
        intro hx
        have := congrArg (fun l => l.getD 4 0) hx
        simp [httpI, httpsI, lowL, lowI] at this
      have hb2 : begI (httpsI ++ [58, 47, 47]) (lowL (httpsI ++ ([58, 47, 47] ++ (u.host ++ (portT u ++ (u.path ++ u.query)))) ++ f')) = true := by rw [begI_iff]; rfl
      rw [if_neg (by rw [hb1]; simp), if_pos hb2]
      simp [httpsI, List.append_assoc]
  rw [hsch]
  show hostI u.sch _ = some u
  obtain ⟨pr, hpr⟩ := h.pathOk.head
  have hnext : ∃ x q, portT u ++ (u.path ++ (u.query ++ f')) = x :: q ∧ ([58, 47, 63, 35] : List Int).contains x = true := by
    unfold portT
    split
    · exact ⟨58, _, rfl, by decide⟩
    · rw [hpr]; exact ⟨47, _, rfl, by decide⟩
  obtain ⟨x, q, hxq, hxs⟩ := hnext
  have hst : ahead [58, 47, 63, 35] (u.host ++ (portT u ++ (u.path ++ (u.query ++ f')))) = u.host ∧ behind [58, 47, 63, 35] (u.host ++ (portT u ++ (u.path ++ (u.query ++ f')))) = portT u ++ (u.path ++ (u.query ++ f')) := by
    rw [hxq]; exact ahead_stop (host_stops h.fine.host) hxs
  unfold hostI
  rw [hst.1, hst.2, h.fine.host.low, if_pos h.fine.host, portI_print h (by rw [hpr]; exact ⟨_, rfl⟩)]
  exact restI_print h hf'
/-- What is joined of its own path and query is the URL again, if its path does not begin as a host would. -/
theorem joinI_self {u : UL} (h : u.Norm) (h2 : u.path.getD 1 0 ≠ 47) : joinI u (u.path ++ u.query) = some u := by
  obtain ⟨pr, hpr⟩ := h.pathOk.head
  have hasc : ∀ x ∈ u.path ++ u.query, 33 ≤ x ∧ x ≤ 126 := fun x hx => printI_ascii h x (by
    rw [printI_parts]
    simp only [List.mem_append] at hx ⊢
    rcases hx with hx | hx
    · exact .inr (.inr (.inr (.inr (.inl hx))))
    · exact .inr (.inr (.inr (.inr (.inr hx)))))
  obtain ⟨f', hf', ht⟩ := trim_frag (f := []) hasc (by rw [hpr]; simp) (.inl rfl)
  have ht2 : trimI (u.path ++ u.query) = u.path ++ u.query := by
    have h1 := trimI_twice (u.path ++ u.query)
    rw [List.append_nil] at ht
    have hl := (trimI_sub (u.path ++ u.query)).length_le
    rw [ht, List.length_append] at hl
    have : f' = [] := List.eq_nil_of_length_eq_zero (by omega)
    rw [ht, this, List.append_nil]
  unfold joinI
  rw [ht2]
  have hb1 : begI [47, 47] (u.path ++ u.query) = false := by
    rw [← Bool.not_eq_true, begI_iff]
    intro hx
    rw [hpr] at hx h2
    cases pr with
    | nil =>
      rcases h.queryOk with e | ⟨r, _, e, hp⟩
      · rw [e] at hx; simp at hx
      · rw [e] at hx; simp at hx
    | cons y r =>
      simp at hx h2
      exact h2 hx
  have hb2 : begI [47] (u.path ++ u.query) = true := by rw [begI_iff, hpr]; rfl
  rw [if_neg (by rw [hb1]; simp), if_pos hb2]
  have := parseI_print h (f := []) (.inl rfl)
  rw [List.append_nil] at this
  unfold printI at this
  rw [List.append_assoc] at this
  exact this
end Go.Proofs.YtfgaikacijdodaaGreatDoor
/-
  URLs with a port written out (for URLPorts): plain lists; nothing runs here.
-/
namespace Go.Proofs.YtfgaikacijdodaaGreatDoor
set_option linter.unusedVariables false
set_option linter.unusedSimpArgs false
set_option maxRecDepth 20000

def abI : List Int := [97, 46, 98]
theorem abI_ok : HostOk abI := by decide
/-- Scheme and host are read; what is behind them goes on. -/
theorem parseI_hd {sch hst : List Int} {x : Int} {q : List Int} (hs : sch = httpI ∨ sch = httpsI) (hh : HostOk hst) (ht : ∀ y ∈ x :: q, 33 ≤ y ∧ y ≤ 126) (hx : ([58, 47, 63, 35] : List Int).contains x = true) :
    parseI (sch ++ ([58, 47, 47] ++ (hst ++ x :: q))) = (portI sch (x :: q)).bind fun p => restI sch hst p.1 p.2 := by
  have hall : ∀ y ∈ sch ++ ([58, 47, 47] ++ (hst ++ x :: q)), 33 ≤ y ∧ y ≤ 126 := by
    intro y hy
    rcases List.mem_append.1 hy with h | h
    · rcases hs with rfl | rfl <;> simp [httpI, httpsI] at h <;> omega
    · rcases List.mem_append.1 h with h | h
      · simp at h; omega
      · rcases List.mem_append.1 h with h | h
        · have := hh.mem y h; unfold HB at this; omega
        · exact ht y h
  obtain ⟨f', hf', htr⟩ := trim_frag (f := []) hall (by rcases hs with rfl | rfl <;> simp [httpI, httpsI]) (.inl rfl)
  have hf0 : f' = [] := by
    have h1 := (trimI_sub (sch ++ ([58, 47, 47] ++ (hst ++ x :: q)) ++ [])).length_le
    rw [htr, List.append_nil, List.length_append] at h1
    exact List.eq_nil_of_length_eq_zero (by omega)
  rw [hf0, List.append_nil] at htr
  unfold parseI
  rw [htr]
  have hsch : schemeI (sch ++ ([58, 47, 47] ++ (hst ++ x :: q))) = some (sch, hst ++ x :: q) := by
    unfold schemeI
    rcases hs with e | e <;> rw [e]
    · have hb : begI (httpI ++ [58, 47, 47]) (lowL (httpI ++ ([58, 47, 47] ++ (hst ++ x :: q)))) = true := by rw [begI_iff]; rfl
      rw [if_pos hb]
      rfl
    · have hb1 : begI (httpI ++ [58, 47, 47]) (lowL (httpsI ++ ([58, 47, 47] ++ (hst ++ x :: q)))) = false := by
        rw [← Bool.not_eq_true, begI_iff]
        intro hx
        have := congrArg (fun l => l.getD 4 0) hx
        simp [httpI, httpsI, lowL, lowI] at this
      have hb2 : begI (httpsI ++ [58, 47, 47]) (lowL (httpsI ++ ([58, 47, 47] ++ (hst ++ x :: q)))) = true := by rw [begI_iff]; rfl
      rw [if_neg (by rw [hb1]; simp), if_pos hb2]
      rfl
  rw [hsch]
  show hostI sch _ = _
  have hstp := ahead_stop (r := q) (host_stops hh) hx
  unfold hostI
  rw [hstp.1, hstp.2, hh.low, if_pos hh]
theorem parseI_ab {sch : List Int} {x : Int} {q : List Int} (hs : sch = httpI ∨ sch = httpsI) (ht : ∀ y ∈ x :: q, 33 ≤ y ∧ y ≤ 126) (hx : ([58, 47, 63, 35] : List Int).contains x = true) :
    parseI (sch ++ ([58, 47, 47] ++ (abI ++ x :: q))) = (portI sch (x :: q)).bind fun p => restI sch abI p.1 p.2 := parseI_hd hs abI_ok ht hx
theorem figN_zeros (z : Nat) (l : List Int) : figN (List.replicate z 48 ++ l) = figN l := by
  induction z with
  | zero => rfl
  | succ z ih =>
    rw [List.replicate_succ, List.cons_append]
    unfold figN at *
    rw [List.foldl_cons]
    exact ih
/-- A port of one to five digits, and a path behind it. -/
theorem portI_digits {sch ds r : List Int} (h1 : 1 ≤ ds.length) (h5 : ds.length ≤ 5) (hd : ∀ x ∈ ds, 48 ≤ x ∧ x ≤ 57) :
    portI sch (58 :: (ds ++ 47 :: r)) = if 65535 < figN ds then none else some (if figN ds = ownI sch then 0 else figN ds, 47 :: r) := by
  have hb : begI [58] (58 :: (ds ++ 47 :: r)) = true := by rw [begI_iff]; rfl
  have hdn : ∀ y ∈ ds, ([47, 63, 35] : List Int).contains y = false := by
    intro y hy
    have := hd y hy
    apply contains_no
    intro k hk e
    match k, hk, e with
    | 0, _, e => simp at e; omega
    | 1, _, e => simp at e; omega
    | 2, _, e => simp at e; omega
    | (k + 3), hk, _ => simp only [List.length_cons, List.length_nil] at hk; omega
  have hst := ahead_stop (r := r) hdn (show ([47, 63, 35] : List Int).contains 47 = true by decide)
  have hd1 : (58 :: (ds ++ 47 :: r)).drop 1 = ds ++ 47 :: r := rfl
  unfold portI
  rw [if_pos hb, hd1, hst.1, hst.2]
  have hfig : figI ds 1 5 = some (figN ds) := by
    unfold figI
    rw [if_pos ⟨by omega, by omega, hd⟩]
  rw [hfig]
  rfl
theorem portT_len {u : UL} (h : u.port < 100000) : (portT u).length ≤ 6 := by
  unfold portT
  split
  · have := digs_short (n := u.port.toNat) (by omega)
    simp only [List.length_cons]; omega
  · simp
theorem restI_x {sch : List Int} {p : Int} (hs : sch = httpI ∨ sch = httpsI) (hp : p < 100000) : restI sch abI p [47, 120] = some ⟨sch, abI, p, [47, 120], []⟩ := by
  have e1 : dotsI (ahead [63] (ahead [35] [47, 120])) = [47, 120] := by decide +kernel
  have e2 : queryI (behind [63] (ahead [35] [47, 120])) = [] := by decide +kernel
  have hl := portT_len (u := ⟨sch, abI, p, [47, 120], []⟩) hp
  unfold restI
  simp only [e1, e2]
  rw [if_neg]
  rw [printI_parts]
  rcases hs with rfl | rfl <;> simp [httpI, httpsI, abI] at * <;> omega
theorem restI_0 {sch : List Int} (hs : sch = httpI ∨ sch = httpsI) : restI sch abI 0 [47] = some ⟨sch, abI, 0, [47], []⟩ := by
  have e1 : dotsI (ahead [63] (ahead [35] [47])) = [47] := by decide +kernel
  have e2 : queryI (behind [63] (ahead [35] [47])) = [] := by decide +kernel
  unfold restI
  simp only [e1, e2]
  rw [if_neg]
  rw [printI_parts]
  rcases hs with rfl | rfl <;> decide
/-- A port with zeros before it. -/
theorem parseI_port {sch : List Int} (hs : sch = httpI ∨ sch = httpsI) {n z : Nat} (hn : n < 100000) (hz : z + (digs n).length ≤ 5) :
    parseI (sch ++ ([58, 47, 47] ++ (abI ++ 58 :: ((List.replicate z 48 ++ digs n) ++ [47, 120])))) = if 65535 < n then none else some ⟨sch, abI, if (n : Int) = ownI sch then 0 else n, [47, 120], []⟩ := by
  have hd : ∀ x ∈ List.replicate z 48 ++ digs n, (48 : Int) ≤ x ∧ x ≤ 57 := by
    intro x hx
    rcases List.mem_append.1 hx with h | h
    · have := (List.mem_replicate.1 h).2; omega
    · exact digs_dig n x h
  have hlen := digs_len n
  rw [parseI_ab hs (by
    intro y hy
    rcases List.mem_cons.1 hy with rfl | h
    · omega
    · rcases List.mem_append.1 h with h | h
      · have := hd y h; omega
      · simp at h; omega) (by decide)]
  rw [portI_digits (by simp; omega) (by simp; omega) hd, figN_zeros, fig_digs (by omega)]
  by_cases h : 65535 < n
  · rw [if_pos (by omega), if_pos h]; rfl
  · rw [if_neg (by omega), if_neg h]
    show restI sch abI _ _ = _
    rw [restI_x hs (by split <;> omega)]
theorem parseI_bare {sch : List Int} (hs : sch = httpI ∨ sch = httpsI) : parseI (sch ++ ([58, 47, 47] ++ (abI ++ [47]))) = some ⟨sch, abI, 0, [47], []⟩ := by
  rw [parseI_ab hs (by simp) (by decide)]
  have : portI sch [47] = some (0, [47]) := by unfold portI; rw [if_neg (by decide)]
  rw [this]
  exact restI_0 hs
end Go.Proofs.YtfgaikacijdodaaGreatDoor
/-
  The landed program's own way to read a URL: plain lists; nothing runs here.
-/
namespace Go.Proofs.YtfgaikacijdodaaGreatDoor
set_option linter.unusedVariables false
set_option linter.unusedSimpArgs false
set_option maxRecDepth 20000

/-! ### parts -/
theorem contains_app (a b : List Int) (x : Int) : (a ++ b).contains x = (a.contains x || b.contains x) := by
  rw [Bool.eq_iff_iff]; simp
theorem ahead_ahead (a b : List Int) : ∀ l : List Int, ahead a (ahead b l) = ahead (a ++ b) l
  | [] => rfl
  | x :: l => by
    have ih := ahead_ahead a b l
    unfold ahead at *
    by_cases hb : b.contains x = true
    · rw [List.takeWhile_cons_of_neg (p := fun x => !b.contains x) (by rw [hb]; simp), List.takeWhile_cons_of_neg (p := fun x => !(a ++ b).contains x) (by rw [contains_app, hb]; simp)]
      rfl
    · rw [Bool.not_eq_true] at hb
      rw [List.takeWhile_cons_of_pos (p := fun x => !b.contains x) (by rw [hb]; rfl)]
      by_cases ha : a.contains x = true
      · rw [List.takeWhile_cons_of_neg (p := fun x => !a.contains x) (by rw [ha]; simp), List.takeWhile_cons_of_neg (p := fun x => !(a ++ b).contains x) (by rw [contains_app, ha]; simp)]
      · rw [Bool.not_eq_true] at ha
        rw [List.takeWhile_cons_of_pos (p := fun x => !a.contains x) (by rw [ha]; rfl), List.takeWhile_cons_of_pos (p := fun x => !(a ++ b).contains x) (by rw [contains_app, ha, hb]; rfl), ih]
theorem ahead_no (st : List Int) : ∀ (l : List Int), ∀ y ∈ ahead st l, st.contains y = false
  | [], y, h => by cases h
  | x :: l, y, h => by
    have ih := ahead_no st l y
    unfold ahead at *
    by_cases hx : st.contains x = true
    · rw [List.takeWhile_cons_of_neg (p := fun x => !st.contains x) (by rw [hx]; simp)] at h; cases h
    · rw [Bool.not_eq_true] at hx
      rw [List.takeWhile_cons_of_pos (p := fun x => !st.contains x) (by rw [hx]; rfl)] at h
      rcases List.mem_cons.1 h with rfl | h
      · exact hx
      · exact ih h
theorem behind_hd (st : List Int) : ∀ (l : List Int), behind st l = [] ∨ ∃ x r, behind st l = x :: r ∧ st.contains x = true
  | [] => .inl rfl
  | x :: l => by
    have ih := behind_hd st l
    unfold behind at *
    by_cases hx : st.contains x = true
    · rw [List.dropWhile_cons_of_neg (p := fun x => !st.contains x) (by rw [hx]; simp)]
      exact .inr ⟨x, l, rfl, hx⟩
    · rw [Bool.not_eq_true] at hx
      rw [List.dropWhile_cons_of_pos (p := fun x => !st.contains x) (by rw [hx]; rfl)]
      exact ih
/-! ### the mark behind the scheme -/
def cut3 : List Int → List Int × List Int
  | [] => ([], [])
  | x :: l => if begI [58, 47, 47] (x :: l) then ([], (x :: l).drop 3) else (x :: (cut3 l).1, (cut3 l).2)
theorem cut3_hit : ∀ {p : List Int} (r : List Int), (∀ y ∈ p, y ≠ 58) → cut3 (p ++ (58 :: 47 :: 47 :: r)) = (p, r)
  | [], r, _ => by
    show cut3 (58 :: 47 :: 47 :: r) = _
    unfold cut3
    rw [if_pos (by rw [begI_iff]; rfl)]
    rfl
  | x :: p, r, h => by
    have hx := h x (.head _)
    have ih := cut3_hit (p := p) r (fun y hy => h y (.tail _ hy))
    rw [List.cons_append]
    unfold cut3
    rw [if_neg (by rw [begI_iff]; simp [hx]), ih]
theorem cut3_is : ∀ (l : List Int), l = (cut3 l).1 ++ (58 :: 47 :: 47 :: (cut3 l).2) ∨ ((cut3 l).1 = l ∧ (cut3 l).2 = [])
  | [] => .inr ⟨rfl, rfl⟩
  | x :: l => by
    unfold cut3
    split
    · rename_i h
      left
      have := begI_drop h
      simpa using this
    · rcases cut3_is l with h | ⟨h1, h2⟩
      · left
        show x :: l = x :: ((cut3 l).1 ++ _)
        rw [← h]
      · right
        exact ⟨by show x :: (cut3 l).1 = _; rw [h1], h2⟩
theorem cut3_mem (l : List Int) : (∀ x ∈ (cut3 l).1, x ∈ l) ∧ (∀ x ∈ (cut3 l).2, x ∈ l) ∧ (cut3 l).1.length + (cut3 l).2.length ≤ l.length := by
  rcases cut3_is l with h | ⟨h1, h2⟩
  · refine ⟨fun x hx => ?_, fun x hx => ?_, ?_⟩
    · rw [h]; simp [hx]
    · rw [h]; simp [hx]
    · have := congrArg List.length h; simp at this; omega
  · exact ⟨fun x hx => (by rw [← h1]; exact hx), fun x hx => (by rw [h2] at hx; cases hx), (by rw [h1, h2]; simp)⟩
/-! ### paths -/
def rawStep (st : List (List Int)) (p : List Int) (last : Bool) : List (List Int) :=
  if p = [46] ∨ p = [46, 46] then
    (let st1 := if p = [46, 46] then st.dropLast else st
     if last then st1 ++ [[]] else st1)
  else st ++ [p]
def rawGo : List (List Int) → List (List Int) → List (List Int)
  | st, [] => st
  | st, [p] => rawStep st p true
  | st, p :: q :: r => rawGo (rawStep st p false) (q :: r)
theorem dotStep_raw (st : List (List Int)) (p : List Int) (last : Bool) : dotStep (st.map pctE) p last = (rawStep st p last).map pctE := by
  unfold dotStep rawStep
  split
  · simp only []
    have e : (if p = [46, 46] then (st.map pctE).dropLast else st.map pctE) = (if p = [46, 46] then st.dropLast else st).map pctE := by
      split
      · rw [List.map_dropLast]
      · rfl
    rw [e]
    cases last
    · rfl
    · simp only [if_true, List.map_append, List.map_cons, List.map_nil]
      rfl
  · simp
theorem dotGo_raw : ∀ (ps st : List (List Int)), dotGo (st.map pctE) ps = (rawGo st ps).map pctE
  | [], st => rfl
  | [p], st => dotStep_raw st p true
  | p :: q :: r, st => by
    show dotGo (dotStep (st.map pctE) p false) (q :: r) = (rawGo (rawStep st p false) (q :: r)).map pctE
    rw [dotStep_raw, dotGo_raw (q :: r)]
theorem rawGo_cons (st : List (List Int)) (p : List Int) {ps : List (List Int)} (h : ps ≠ []) : rawGo st (p :: ps) = rawGo (rawStep st p false) ps := by
  cases ps with
  | nil => exact absurd rfl h
  | cons q r => rfl
theorem dec_slash {p : List Int} (hp : p ≠ []) (r : List Int) : decI (p ++ 47 :: r) = decI p := by
  unfold decI
  rcases p with _ | ⟨a, _ | ⟨b, _ | ⟨c, _ | ⟨d, t⟩⟩⟩⟩
  · exact absurd rfl hp
  · simp [Lib.decodeN]
  · simp [Lib.decodeN]
  · simp [Lib.decodeN]
  · simp [Lib.decodeN]
theorem runes_slash : ∀ (n : Nat) (p : List Int), p.length ≤ n → ∀ r, runes (p ++ 47 :: r) = runes p ++ 47 :: runes r
  | n, [], _, r => by
    have := runes_enc (c := 47) (by unfold vrune; omega) r
    rw [encI_one (by decide)] at this
    exact this
  | 0, x :: p, h, _ => by simp at h
  | n + 1, x :: p, h, r => by
    have hne : x :: p ≠ [] := by simp
    have h1 := decI_pos (x :: p)
    have h2 := decI_le hne
    rw [runes_step (by simp), dec_slash hne, runes_step hne, List.drop_append_of_le_length h2, runes_slash n _ (by rw [List.length_drop]; simp only [List.length_cons] at *; omega)]
    rfl
theorem pctE_slash (p r : List Int) : pctE (p ++ 47 :: r) = pctE p ++ 47 :: pctE r := by
  unfold pctE
  rw [runes_slash p.length p (Nat.le_refl _), List.flatMap_append, List.flatMap_cons]
  rfl
theorem pctE_slashed : ∀ st : List (List Int), slashed (st.map pctE) = pctE (slashed st)
  | [] => rfl
  | [p] => by
    show 47 :: pctE p ++ [] = pctE (47 :: p ++ [])
    rw [List.append_nil, List.append_nil]
    exact (pctE_slash [] p).symm
  | p :: q :: r => by
    have ih := pctE_slashed (q :: r)
    show (47 :: pctE p) ++ slashed ((q :: r).map pctE) = pctE ((47 :: p) ++ slashed (q :: r))
    rw [ih]
    have e : slashed (q :: r) = 47 :: (q ++ slashed r) := rfl
    rw [e, pctE_slash (47 :: p)]
    have h1 : pctE (47 :: p) = 47 :: pctE p := pctE_slash [] p
    have h2 : pctE (47 :: (q ++ slashed r)) = 47 :: pctE (q ++ slashed r) := pctE_slash [] _
    rw [h1, h2]
/-- The path that the parts of l lead to (without the slash that begins it). -/
def walkI (l : List Int) : List Int := slashed (rawGo [] (partsI l))
theorem walk_dots (l : List Int) : pctE (walkI (l.drop 1)) = dotsI l := by
  unfold walkI dotsI
  rw [← pctE_slashed, ← dotGo_raw]
  rfl
/-! ### reading -/
def schI (s : List Int) : Option (List Int) := if lowL s = httpI then some httpI else if lowL s = httpsI then some httpsI else none
def prtI (p : List Int) : Option Int := (figI p 1 5).bind fun n => if 65535 < n then none else some n
def prtI' (at_ : List Int) : Option Int := if behind [58] at_ = [] then some 0 else prtI ((behind [58] at_).drop 1)
def readI (T : List Int) : Option UL :=
  let s1 := ahead [35] T
  let c := cut3 (ahead [63] s1)
  let q := (behind [63] s1).drop 1
  let at_ := ahead [47] c.2
  (schI c.1).bind fun sch => if HostOk (lowL (ahead [58] at_)) then
    (prtI' at_).bind fun n => some ⟨sch, lowL (ahead [58] at_), if n = ownI sch then 0 else n, pctE (walkI ((behind [47] c.2).drop 1)), if q = [] then [] else 63 :: pctE q⟩
  else none
theorem low_is {y a : Int} (h : lowI y = a) : y = a ∨ (97 ≤ a ∧ a ≤ 122 ∧ y = a - 32) := by
  unfold lowI at h
  split at h
  · right; omega
  · exact .inl h
theorem low_http {P : List Int} (h : lowL P = httpI ∨ lowL P = httpsI) : ∀ y ∈ P, y ≠ 58 ∧ y ≠ 35 ∧ y ≠ 63 ∧ y ≠ 47 := by
  intro y hy
  have hm : lowI y ∈ httpsI := by
    have h1 : lowI y ∈ lowL P := List.mem_map.2 ⟨y, hy, rfl⟩
    rcases h with h | h <;> rw [h] at h1
    · simp [httpI, httpsI] at h1 ⊢; omega
    · exact h1
  simp only [httpsI, List.mem_cons, List.not_mem_nil, or_false] at hm
  rcases hm with e | e | e | e | e <;> rcases low_is e with h1 | h1 <;> omega
theorem low_marks {M : List Int} (h : lowL M = [58, 47, 47]) : M = [58, 47, 47] := by
  rcases M with _ | ⟨a, _ | ⟨b, _ | ⟨c, _ | ⟨d, t⟩⟩⟩⟩ <;> simp [lowL] at h
  have h1 := low_is h.1; have h2 := low_is h.2.1; have h3 := low_is h.2.2
  simp; omega
theorem begI_low {p T : List Int} (h : begI p (lowL T) = true) : lowL (T.take p.length) = p := by
  have := begI_iff.1 h
  unfold lowL at *
  rw [List.map_take]; exact this
theorem lowL_take (l : List Int) (n : Nat) : lowL (l.take n) = (lowL l).take n := by unfold lowL; rw [List.map_take]
/-- What has a scheme is the scheme's letters, the mark, the rest. -/
theorem scheme_parts {T sch r : List Int} (h : schemeI T = some (sch, r)) : ∃ P, T = P ++ (58 :: 47 :: 47 :: r) ∧ lowL P = sch ∧ schI P = some sch := by
  have key : ∀ (q : List Int) (n : Nat), q.length = n → begI (q ++ [58, 47, 47]) (lowL T) = true → T = T.take n ++ (58 :: 47 :: 47 :: T.drop (n + 3)) ∧ lowL (T.take n) = q := by
    intro q n hn hb
    have h1 := begI_low hb
    have hl := begI_len hb
    have hlen : n + 3 ≤ T.length := by have : (lowL T).length = T.length := by simp [lowL]
                                       simp only [List.length_append, List.length_cons, List.length_nil] at hl; omega
    rw [List.length_append, hn, show ([58, 47, 47] : List Int).length = 3 from rfl] at h1
    have e : T.take (n + 3) = T.take n ++ (T.drop n).take 3 := by rw [List.take_add]
    rw [e, lowL_append] at h1
    have h2 : lowL (T.take n) = q ∧ lowL ((T.drop n).take 3) = [58, 47, 47] := by
      apply List.append_inj h1
      simp [lowL]; omega
    have h3 := low_marks h2.2
    refine ⟨?_, h2.1⟩
    have h4 : T.drop n = (T.drop n).take 3 ++ (T.drop n).drop 3 := (List.take_append_drop 3 _).symm
    rw [h3, List.drop_drop] at h4
    have h5 : T = T.take n ++ T.drop n := (List.take_append_drop n T).symm
    rw [h4] at h5
    exact h5
  unfold schemeI at h
  split at h
  · rename_i hb
    cases h
    have := key httpI 4 rfl hb
    exact ⟨_, this.1, this.2, by unfold schI; rw [if_pos this.2]⟩
  · split at h
    · rename_i hb
      cases h
      have := key httpsI 5 rfl hb
      exact ⟨_, this.1, this.2, by unfold schI; rw [if_neg (by rw [this.2]; decide), if_pos this.2]⟩
    · cases h
theorem scheme_of {P r sch : List Int} (h : schI P = some sch) : schemeI (P ++ (58 :: 47 :: 47 :: r)) = some (sch, r) := by
  have low : lowL (P ++ (58 :: 47 :: 47 :: r)) = lowL P ++ ([58, 47, 47] ++ lowL r) := by rw [lowL_append]; rfl
  unfold schI at h
  split at h
  · rename_i e
    cases h
    have hl : P.length = 4 := by have := congrArg List.length e; simpa [lowL, httpI] using this
    unfold schemeI
    rw [low, e, if_pos (by rw [begI_iff, ← List.append_assoc, List.take_left']; rfl)]
    rw [List.drop_append, hl]
    simp [hl, List.drop_eq_nil_of_le]
  · split at h
    · rename_i hne e
      cases h
      have hl : P.length = 5 := by have := congrArg List.length e; simpa [lowL, httpsI] using this
      unfold schemeI
      rw [low, e, if_neg (by rw [begI_iff]; simp [httpsI, httpI]), if_pos (by rw [begI_iff, ← List.append_assoc, List.take_left']; rfl)]
      rw [List.drop_append, hl]
      simp [hl, List.drop_eq_nil_of_le]
    · cases h
def cap40 (u : UL) : Option UL := if 40 < (printI u).length then none else some u
/-- What follows the host, or the port: nothing, or one of the three signs. -/
theorem tail_parts {E : List Int} (h : E = [] ∨ ∃ x r, E = x :: r ∧ ([47, 63, 35] : List Int).contains x = true) :
    ahead [47] (ahead [63] (ahead [35] E)) = [] ∧ behind [47] (ahead [63] (ahead [35] E)) = ahead [63] (ahead [35] E) := by
  rcases h with rfl | ⟨x, r, rfl, hx⟩
  · exact ⟨rfl, rfl⟩
  · have h1 := (ahead_hd hx r).1
    rw [ahead_ahead, ahead_ahead]
    refine ⟨h1, ?_⟩
    rw [ahead_ahead]
    simp only [List.contains_cons, List.contains_nil, Bool.or_false, Bool.or_eq_true, beq_iff_eq] at hx
    rcases hx with rfl | rfl | rfl
    · unfold ahead behind
      rw [List.takeWhile_cons_of_pos (by decide), List.dropWhile_cons_of_neg (by decide)]
    · unfold ahead behind
      rw [List.takeWhile_cons_of_neg (by decide)]
      rfl
    · unfold ahead behind
      rw [List.takeWhile_cons_of_neg (by decide)]
      rfl
theorem query_same (q : List Int) : queryI q = if q.drop 1 = [] then [] else 63 :: pctE (q.drop 1) := by
  unfold queryI
  by_cases h : 1 < q.length
  · rw [if_pos h, if_neg (by intro e; have := congrArg List.length e; simp at this; omega)]
  · rw [if_neg h, if_pos (by apply List.drop_eq_nil_of_le; omega)]
theorem read_hit {P r sch : List Int} (hs : schI P = some sch) : (readI (P ++ (58 :: 47 :: 47 :: r))).bind cap40 = hostI sch r := by
  have hP := low_http (P := P) (by
    unfold schI at hs
    split at hs
    · rename_i e; exact .inl e
    · split at hs
      · rename_i e; exact .inr e
      · cases hs)
  have hno : ∀ (st : List Int), (∀ y ∈ st, y = 35 ∨ y = 63) → ∀ y ∈ P ++ [58, 47, 47], st.contains y = false := by
    intro st hst y hy
    rw [← Bool.not_eq_true]
    intro hc
    have h1 := hst y (by simpa using hc)
    rcases List.mem_append.1 hy with h2 | h2
    · have := hP y h2; omega
    · simp at h2; omega
  have e1 : P ++ (58 :: 47 :: 47 :: r) = (P ++ [58, 47, 47]) ++ r := by simp
  have a1 := ahead_app (st := [35]) (p := P ++ [58, 47, 47]) r (hno _ (by simp))
  have a2 := ahead_app (st := [63]) (p := P ++ [58, 47, 47]) (ahead [35] r) (hno _ (by simp))
  have c3 : cut3 (P ++ [58, 47, 47] ++ ahead [63] (ahead [35] r)) = (P, ahead [63] (ahead [35] r)) := by
    rw [show P ++ [58, 47, 47] ++ ahead [63] (ahead [35] r) = P ++ (58 :: 47 :: 47 :: ahead [63] (ahead [35] r)) by simp]
    exact cut3_hit _ (fun y hy => (hP y hy).1)
  unfold readI
  simp only [e1, a1.1, a2.1, a2.2, c3, hs, Option.bind_some]
  unfold hostI
  -- the host
  have hH : ahead [58] (ahead [47] (ahead [63] (ahead [35] r))) = ahead [58, 47, 63, 35] r := by rw [ahead_ahead, ahead_ahead, ahead_ahead]; rfl
  rw [hH]
  split
  · rename_i hho
    have hr : r = ahead [58, 47, 63, 35] r ++ behind [58, 47, 63, 35] r := (ahead_behind _ r).symm
    have hHno := ahead_no [58, 47, 63, 35] r
    have hBhd := behind_hd [58, 47, 63, 35] r
    generalize ahead [58, 47, 63, 35] r = H at *
    generalize behind [58, 47, 63, 35] r = B at *
    have hn : ∀ st : List Int, (∀ y ∈ st, y ∈ ([58, 47, 63, 35] : List Int)) → ∀ y ∈ H, st.contains y = false := by
      intro st hst y hy
      rw [← Bool.not_eq_true]
      intro hc
      have h1 := hst y (by simpa using hc)
      have h2 := hHno y hy
      simp only [List.contains_cons, List.contains_nil, Bool.or_false, Bool.or_eq_false_iff, beq_eq_false_iff_ne] at h2
      simp at h1; omega
    have b1 := ahead_app (st := [35]) (p := H) B (hn _ (by simp))
    have b2 := ahead_app (st := [63]) (p := H) (ahead [35] B) (hn _ (by simp))
    have b3 := ahead_app (st := [47]) (p := H) (ahead [63] (ahead [35] B)) (hn _ (by simp))
    have b4 := ahead_app (st := [58]) (p := H) (ahead [47] (ahead [63] (ahead [35] B))) (hn _ (by simp))
    rw [hr, b1.1, b2.1, b2.2, b3.1, b3.2]
    unfold prtI' portI
    rw [b4.2]
    by_cases hb : begI [58] B = true
    · obtain ⟨C, rfl⟩ : ∃ C, B = 58 :: C := ⟨B.drop 1, by have := begI_drop hb; simpa using this⟩
      rw [if_pos hb]
      have hC : C = ahead [47, 63, 35] C ++ behind [47, 63, 35] C := (ahead_behind _ C).symm
      have hDno := ahead_no [47, 63, 35] C
      have hEhd := behind_hd [47, 63, 35] C
      rw [show (58 :: C).drop 1 = C from rfl]
      generalize ahead [47, 63, 35] C = D at *
      generalize behind [47, 63, 35] C = E at *
      subst hC
      have hn2 : ∀ st : List Int, (∀ y ∈ st, y ∈ ([47, 63, 35] : List Int)) → ∀ y ∈ 58 :: D, st.contains y = false := by
        intro st hst y hy
        rw [← Bool.not_eq_true]
        intro hc
        have h1 := hst y (by simpa using hc)
        rcases List.mem_cons.1 hy with rfl | hy
        · simp at h1
        · have h2 := hDno y hy
          simp only [List.contains_cons, List.contains_nil, Bool.or_false, Bool.or_eq_false_iff, beq_eq_false_iff_ne] at h2
          simp at h1; omega
      have d1 := ahead_app (st := [35]) (p := 58 :: D) E (hn2 _ (by simp))
      have d2 := ahead_app (st := [63]) (p := 58 :: D) (ahead [35] E) (hn2 _ (by simp))
      have d3 := ahead_app (st := [47]) (p := 58 :: D) (ahead [63] (ahead [35] E)) (hn2 _ (by simp))
      have ht := tail_parts hEhd
      simp only [List.cons_append] at d1 d2 d3
      rw [d1.1, d2.1, d2.2, d3.1, d3.2, ht.1, ht.2, List.append_nil]
      have h58 := (ahead_hd (st := [58]) (x := 58) (by decide) D).2
      rw [h58, if_neg (by simp), List.drop_succ_cons, List.drop_zero, walk_dots, ← query_same]
      unfold prtI restI
      cases figI D 1 5 with
      | none => rfl
      | some n =>
        simp only [Option.bind_some]
        by_cases h65 : 65535 < n
        · rw [if_pos h65, if_pos h65]; rfl
        · rw [if_neg h65, if_neg h65]
          rfl
    · rw [if_neg hb]
      have hB : B = [] ∨ ∃ x q, B = x :: q ∧ ([47, 63, 35] : List Int).contains x = true := by
        rcases hBhd with h | ⟨x, q, rfl, hx⟩
        · exact .inl h
        · refine .inr ⟨x, q, rfl, ?_⟩
          simp only [List.contains_cons, List.contains_nil, Bool.or_false, Bool.or_eq_true, beq_iff_eq] at hx ⊢
          rcases hx with rfl | hx
          · exact absurd (by rw [begI_iff]; rfl) hb
          · exact hx
      have ht := tail_parts hB
      rw [ht.1, ht.2, show behind [58] [] = [] from rfl, if_pos rfl, walk_dots, ← query_same]
      have hown : (if (0 : Int) = ownI sch then (0 : Int) else 0) = 0 := by split <;> rfl
      unfold restI
      simp only [Option.bind_some, hown]
      rfl
  · rfl
/-- The landed program reads what the document's Parse reads. -/
theorem read_parse (T : List Int) : (readI T).bind cap40 = (schemeI T).bind fun p => hostI p.1 p.2 := by
  cases hs : schemeI T with
  | some p =>
    obtain ⟨sch, r⟩ := p
    obtain ⟨P, rfl, _, h⟩ := scheme_parts hs
    exact read_hit h
  | none =>
    rw [Option.bind_none]
    unfold readI
    simp only []
    have hT1 : T = ahead [35] T ++ behind [35] T := (ahead_behind _ T).symm
    have hT2 : ahead [35] T = ahead [63] (ahead [35] T) ++ behind [63] (ahead [35] T) := (ahead_behind _ _).symm
    rcases cut3_is (ahead [63] (ahead [35] T)) with h | ⟨_, h2⟩
    · cases hc : schI (cut3 (ahead [63] (ahead [35] T))).1 with
      | none => rfl
      | some sch =>
        exfalso
        have := scheme_of (r := (cut3 (ahead [63] (ahead [35] T))).2 ++ (behind [63] (ahead [35] T) ++ behind [35] T)) hc
        have e : (cut3 (ahead [63] (ahead [35] T))).1 ++ (58 :: 47 :: 47 :: ((cut3 (ahead [63] (ahead [35] T))).2 ++ (behind [63] (ahead [35] T) ++ behind [35] T))) = T := by
          conv => rhs; rw [hT1, hT2, h]
          simp
        rw [e, hs] at this
        cases this
    · rw [h2]
      cases schI (cut3 (ahead [63] (ahead [35] T))).1 with
      | none => rfl
      | some sch =>
        rw [Option.bind_some, if_neg (by decide)]
        rfl
theorem parse_read (l : List Int) : parseI l = (readI (trimI l)).bind cap40 := by rw [read_parse]; rfl
end Go.Proofs.YtfgaikacijdodaaGreatDoor
/-
  Hosts by their parts; the library's cuts, parts, digits as lists of bytes: nothing runs here.
-/
namespace Go.Proofs.YtfgaikacijdodaaGreatDoor
set_option linter.unusedVariables false
set_option linter.unusedSimpArgs false
set_option maxRecDepth 20000

/-! ### parts between a sign -/
def splI (c : Int) : List Int → List (List Int)
  | [] => [[]]
  | x :: r => if x = c then [] :: splI c r else match splI c r with
    | p :: ps => (x :: p) :: ps
    | [] => [[x]]
theorem splI_ne (c : Int) (l : List Int) : splI c l ≠ [] := by
  cases l with
  | nil => simp [splI]
  | cons x r => unfold splI; split; simp; split <;> simp
theorem splI_hit (c : Int) (r : List Int) : splI c (c :: r) = [] :: splI c r := by simp [splI]
theorem splI_go {c x : Int} {r : List Int} (h : x ≠ c) : splI c (x :: r) = (x :: (splI c r).headD []) :: (splI c r).tail := by
  have := splI_ne c r
  simp only [splI, if_neg h]
  cases hs : splI c r with
  | nil => exact absurd hs this
  | cons p ps => rfl
theorem splI_len (c : Int) : ∀ l : List Int, (splI c l).length ≤ l.length + 1
  | [] => by simp [splI]
  | x :: r => by
    have ih := splI_len c r
    by_cases h : x = c
    · subst h; rw [splI_hit]; simp; omega
    · rw [splI_go h]
      have := splI_ne c r
      have h2 : 0 < (splI c r).length := List.length_pos_iff.2 this
      simp; omega
theorem splI_mem (c : Int) : ∀ (l : List Int), ∀ p ∈ splI c l, p.length ≤ l.length ∧ ∀ x ∈ p, x ∈ l
  | [], p, h => by simp [splI] at h; subst h; simp
  | x :: r, p, h => by
    by_cases hx : x = c
    · subst hx
      rw [splI_hit] at h
      rcases List.mem_cons.1 h with rfl | h
      · simp
      · have := splI_mem _ r p h
        exact ⟨by simp; omega, fun y hy => .tail _ (this.2 y hy)⟩
    · rw [splI_go hx] at h
      rcases List.mem_cons.1 h with rfl | h
      · have hm : (splI c r).headD [] ∈ splI c r := by
          cases hs : splI c r with
          | nil => exact absurd hs (splI_ne c r)
          | cons q qs => exact .head _
        have := splI_mem c r _ hm
        refine ⟨by rw [List.length_cons, List.length_cons]; omega, fun y hy => ?_⟩
        rcases List.mem_cons.1 hy with rfl | hy
        · exact .head _
        · exact .tail _ (this.2 y hy)
      · have := splI_mem c r p (List.mem_of_mem_tail h)
        exact ⟨by simp; omega, fun y hy => .tail _ (this.2 y hy)⟩
/-! ### hosts -/
def HB0 (x : Int) : Prop := (97 ≤ x ∧ x ≤ 122) ∨ (48 ≤ x ∧ x ≤ 57) ∨ x = 45
instance (x : Int) : Decidable (HB0 x) := by unfold HB0; infer_instance
def PartH (p : List Int) : Prop := p ≠ [] ∧ ∀ x ∈ p, HB0 x
instance (p : List Int) : Decidable (PartH p) := by unfold PartH; infer_instance
def HostP (l : List Int) : Prop := l.length ≤ 20 ∧ ∀ p ∈ splI 46 l, PartH p
instance (l : List Int) : Decidable (HostP l) := by unfold HostP; infer_instance
/-- The parts are well, but that the first may be empty. -/
def Half46 (l : List Int) : Prop := (∀ x ∈ (splI 46 l).headD [], HB0 x) ∧ ∀ p ∈ (splI 46 l).tail, PartH p
/-- The same by places. -/
def Tail46 (l : List Int) : Prop := (∀ j, j < l.length → HostAt l j) ∧ (l ≠ [] → l.getD (l.length - 1) 0 ≠ 46)
theorem half_nil : Half46 [] := ⟨by simp [splI], by simp [splI]⟩
theorem all_of_half (l : List Int) : (∀ p ∈ splI 46 l, PartH p) ↔ (l ≠ [] ∧ l.getD 0 0 ≠ 46 ∧ Half46 l) := by
  cases l with
  | nil => simp [splI, PartH]
  | cons x r =>
    by_cases hx : x = 46
    · subst hx
      rw [splI_hit]
      constructor
      · intro h; exact absurd rfl (h [] (.head _)).1
      · rintro ⟨_, h, _⟩; exact absurd rfl h
    · unfold Half46
      rw [splI_go hx]
      constructor
      · intro h
        refine ⟨by simp, by simpa using hx, (h _ (.head _)).2, fun p hp => h p (.tail _ hp)⟩
      · rintro ⟨_, _, h1, h2⟩ p hp
        rcases List.mem_cons.1 hp with rfl | hp
        · exact ⟨by simp, h1⟩
        · exact h2 p hp
theorem half_cons (x : Int) (r : List Int) : Half46 (x :: r) ↔ (if x = 46 then r ≠ [] ∧ r.getD 0 0 ≠ 46 ∧ Half46 r else HB0 x ∧ Half46 r) := by
  by_cases hx : x = 46
  · subst hx
    rw [if_pos rfl, ← all_of_half]
    unfold Half46
    rw [splI_hit]
    simp
  · rw [if_neg hx]
    unfold Half46
    rw [splI_go hx]
    simp only [List.headD_cons, List.tail_cons, List.forall_mem_cons]
    exact ⟨fun ⟨⟨a, b⟩, c⟩ => ⟨a, b, c⟩, fun ⟨a, b, c⟩ => ⟨⟨a, b⟩, c⟩⟩
theorem tail_cons (x : Int) (r : List Int) : Tail46 (x :: r) ↔ (if x = 46 then r ≠ [] ∧ r.getD 0 0 ≠ 46 ∧ Tail46 r else HB0 x ∧ Tail46 r) := by
  have hlast : ∀ r : List Int, r ≠ [] → (x :: r).getD ((x :: r).length - 1) 0 = r.getD (r.length - 1) 0 := by
    intro r hr
    obtain ⟨y, t, rfl⟩ := List.exists_cons_of_ne_nil hr
    simp
  have hat : ∀ j, HostAt (x :: r) (j + 1) ↔ HostAt r j := by
    intro j; unfold HostAt; rw [List.getD_cons_succ, List.getD_cons_succ]
  have h0 : HostAt (x :: r) 0 ↔ (HB x ∧ ¬ (x = 46 ∧ r.getD 0 0 = 46)) := by
    unfold HostAt; rw [List.getD_cons_zero, List.getD_cons_succ]
  unfold Tail46
  constructor
  · rintro ⟨h1, h2⟩
    have a0 := h0.1 (h1 0 (by simp))
    have a1 : ∀ j, j < r.length → HostAt r j := fun j hj => (hat j).1 (h1 (j + 1) (by simp; omega))
    have a2 : r ≠ [] → r.getD (r.length - 1) 0 ≠ 46 := fun hr => by rw [← hlast r hr]; exact h2 (by simp)
    by_cases hx : x = 46
    · rw [if_pos hx]
      refine ⟨?_, fun e => a0.2 ⟨hx, e⟩, a1, a2⟩
      rintro rfl
      exact h2 (by simp) (by simpa using hx)
    · rw [if_neg hx]
      refine ⟨?_, a1, a2⟩
      have := a0.1
      unfold HB at this; unfold HB0; omega
  · by_cases hx : x = 46
    · rw [if_pos hx]
      rintro ⟨h1, h2, h3, h4⟩
      refine ⟨fun j hj => ?_, fun _ => by rw [hlast r h1]; exact h4 h1⟩
      cases j with
      | zero => exact h0.2 ⟨by unfold HB; omega, fun e => h2 e.2⟩
      | succ j => exact (hat j).2 (h3 j (by simp at hj; omega))
    · rw [if_neg hx]
      rintro ⟨h1, h3, h4⟩
      refine ⟨fun j hj => ?_, fun _ => ?_⟩
      · cases j with
        | zero => exact h0.2 ⟨by unfold HB0 at h1; unfold HB; omega, fun e => hx e.1⟩
        | succ j => exact (hat j).2 (h3 j (by simp at hj; omega))
      · cases r with
        | nil => simpa using hx
        | cons y t => rw [hlast _ (by simp)]; exact h4 (by simp)
theorem half_tail : ∀ l : List Int, Half46 l ↔ Tail46 l
  | [] => ⟨fun _ => ⟨fun j hj => absurd hj (by simp), fun h => absurd rfl h⟩, fun _ => half_nil⟩
  | x :: r => by rw [half_cons, tail_cons, half_tail r]
theorem host_parts (l : List Int) : HostOk l ↔ HostP l := by
  unfold HostOk HostP
  rw [all_of_half, half_tail]
  unfold Tail46
  constructor
  · rintro ⟨h1, h2, h3, h4, h5⟩
    exact ⟨h2, by rintro rfl; simp at h1, h3, h5, fun _ => h4⟩
  · rintro ⟨h1, h2, h3, h4, h5⟩
    exact ⟨List.length_pos_iff.2 h2, h1, h3, h5 h2, h4⟩
theorem hostP_dec (l : List Int) : decide (HostOk l) = decide (HostP l) := by
  rw [Bool.eq_iff_iff, decide_eq_true_iff, decide_eq_true_iff]; exact host_parts l
/-- Cut at the mark behind a scheme. -/
theorem cut_mark : ∀ l : List UInt8, nb (Lib.cut l [58, 47, 47]).1 = (cut3 (nb l)).1 ∧ nb (Lib.cut l [58, 47, 47]).2.1 = (cut3 (nb l)).2
  | [] => by rw [cut_nil (by simp)]; exact ⟨rfl, rfl⟩
  | b :: l => by
    have ih := cut_mark l
    rw [cut_cons, pre_begI]
    have e : nb (b :: l) = (b.toNat : Int) :: nb l := rfl
    have e2 : nb [58, 47, 47] = [58, 47, 47] := by decide
    rw [e2, e]
    unfold cut3
    by_cases h : begI [58, 47, 47] ((b.toNat : Int) :: nb l) = true
    · rw [if_pos h, if_pos h]
      refine ⟨rfl, ?_⟩
      show nb ((b :: l).drop 3) = _
      rw [← e]
      unfold nb
      rw [List.map_drop]
    · rw [if_neg h, if_neg h]
      exact ⟨by show (b.toNat : Int) :: nb _ = _; rw [ih.1], ih.2⟩
/-- The parts. -/
theorem index_cons (b : UInt8) (l : List UInt8) (c : UInt8) : Lib.index (b :: l) [c] = if b = c then 0 else if Lib.index l [c] = -1 then -1 else Lib.index l [c] + 1 := by
  rw [show Lib.index (b :: l) [c] = if ([c] : List UInt8).isPrefixOf (b :: l) then 0 else if Lib.index l [c] == -1 then -1 else Lib.index l [c] + 1 from rfl]
  by_cases h : b = c
  · subst h; simp
  · rw [if_neg (by simp; exact fun e => h e.symm), if_neg h]
    by_cases h1 : Lib.index l [c] = -1
    · rw [if_pos h1, h1]; rfl
    · rw [if_neg h1, if_neg (by simpa using h1)]
theorem splitK_go {b c : UInt8} (h : b ≠ c) (k : Nat) (l : List UInt8) : Lib.splitK [c] 0 k (b :: l) = (b :: (Lib.splitK [c] 0 k l).headD []) :: (Lib.splitK [c] 0 k l).tail := by
  cases k with
  | zero => rfl
  | succ k =>
    have hge := Lib.index_ge l [c]
    unfold Lib.splitK
    rw [index_cons, if_neg h]
    by_cases h1 : Lib.index l [c] = -1
    · rw [if_pos h1, h1]; rfl
    · rw [if_neg h1]
      obtain ⟨i, hi⟩ : ∃ i : Nat, Lib.index l [c] = i := ⟨(Lib.index l [c]).toNat, by omega⟩
      rw [hi, if_neg (by simp; omega), if_neg (by simp)]
      have e1 : ((i : Int) + 1).toNat = i + 1 := by omega
      rw [e1, Int.toNat_natCast]
      simp [Nat.add_right_comm]
theorem splitK_one (c : UInt8) : ∀ l : List UInt8, (Lib.splitK [c] 0 (Lib.count l [c]) l).map nb = splI (c.toNat : Int) (nb l)
  | [] => by
    rw [Lib.count_one]
    rfl
  | b :: l => by
    have ih := splitK_one c l
    have e : nb (b :: l) = (b.toNat : Int) :: nb l := rfl
    by_cases h : b = c
    · subst h
      rw [Lib.count_cons_eq, Nat.add_comm 1, e, splI_hit, ← ih]
      have e1 : ∀ k, Lib.splitK [b] 0 (k + 1) (b :: l) = [] :: Lib.splitK [b] 0 k l := by
        intro k
        rw [Lib.splitK, index_cons, if_pos rfl, if_neg (by decide)]
        simp
      rw [e1]
      rfl
    · rw [Lib.count_cons_ne _ _ _ h, splitK_go h, e, splI_go (fun x => h ((nb_eq _ _).1 x)), ← ih]
      cases Lib.splitK [c] 0 (Lib.count l [c]) l <;> simp [nb]
theorem splitB_sb (s : ByteArray) (c : UInt8) : (Lib.splitB ⟨#[c]⟩ 0 (Lib.countB s ⟨#[c]⟩) s) = (splI (c.toNat : Int) (sb s)).map strOfNums := by
  have h1 := Lib.splitB_data ⟨#[c]⟩ 0 (Lib.countB s ⟨#[c]⟩) s
  have h2 := splitK_one c s.data.toList
  have e : (Lib.splitB ⟨#[c]⟩ 0 (Lib.countB s ⟨#[c]⟩) s).map sb = splI (c.toNat : Int) (sb s) := by
    rw [sb_nb s, ← h2]
    show List.map sb _ = (Lib.splitK [c] 0 (Lib.countB s ⟨#[c]⟩) s.data.toList).map nb
    rw [← h1, List.map_map]
    rfl
  rw [← e, List.map_map]
  conv => lhs; rw [← List.map_id (Lib.splitB ⟨#[c]⟩ 0 (Lib.countB s ⟨#[c]⟩) s)]
  apply List.map_congr_left
  intro x _
  exact (str_sb x).symm
theorem countB_splI (s : ByteArray) (c : UInt8) : Lib.countB s ⟨#[c]⟩ + 1 = (splI (c.toNat : Int) (sb s)).length := by
  have h := Lib.splitB_all ⟨#[c]⟩ (Nat.le_refl 1) 0 _ s rfl
  rw [splitB_sb, List.length_map] at h
  exact h.symm
end Go.Proofs.YtfgaikacijdodaaGreatDoor
/-
  What a server says: plain lists; nothing runs here.
-/
namespace Go.Proofs.YtfgaikacijdodaaGreatDoor
set_option linter.unusedVariables false
set_option linter.unusedSimpArgs false
set_option maxRecDepth 20000

/-! ### lines -/
/-- Up to 13, 10; none: there is none. -/
def lineI : List Int → Option (List Int × List Int)
  | [] => none
  | [_] => none
  | x :: y :: r => if x = 13 ∧ y = 10 then some ([], r) else (lineI (y :: r)).map fun p => (x :: p.1, p.2)
theorem lineI_cons (x : Int) (l : List Int) : lineI (x :: l) = if x = 13 ∧ l.head? = some 10 then some ([], l.tail) else (lineI l).map fun p => (x :: p.1, p.2) := by
  cases l with
  | nil => simp [lineI]
  | cons y r => simp [lineI]
theorem lineI_app : ∀ {p : List Int} (r : List Int), (∀ x ∈ p, x ≠ 13) → lineI (p ++ (13 :: 10 :: r)) = some (p, r)
  | [], r, _ => by simp [lineI]
  | x :: p, r, h => by
    have hx := h x (.head _)
    have ih := lineI_app (p := p) r (fun y hy => h y (.tail _ hy))
    rw [List.cons_append, lineI_cons, if_neg (by rintro ⟨e, _⟩; exact hx e), ih]
    rfl
theorem lineI_is : ∀ {l p r : List Int}, lineI l = some (p, r) → l = p ++ (13 :: 10 :: r)
  | [], _, _, h => by cases h
  | x :: l, p, r, h => by
    rw [lineI_cons] at h
    split at h
    · rename_i hx
      obtain ⟨rfl, hh⟩ := hx
      cases l with
      | nil => cases hh
      | cons y t =>
        simp only [List.head?_cons, Option.some.injEq] at hh
        subst hh
        cases h
        rfl
    · rw [Option.map_eq_some_iff] at h
      obtain ⟨⟨p', r'⟩, h1, h2⟩ := h
      cases h2
      rw [lineI_is h1]
      rfl
theorem lineI_len {l p r : List Int} (h : lineI l = some (p, r)) : p.length + r.length + 2 = l.length := by
  have := congrArg List.length (lineI_is h)
  simp at this; omega
theorem lineI_byt {l p r : List Int} (hB : Byt l) (h : lineI l = some (p, r)) : Byt p ∧ Byt r := by
  have e := lineI_is h
  subst e
  exact ⟨fun x hx => hB x (by simp [hx]), fun x hx => hB x (by simp [hx])⟩
/-- No line in what has no 13, but perhaps as its last. -/
theorem lineI_no : ∀ {l : List Int}, (∀ x ∈ l.dropLast, x ≠ 13) → lineI l = none
  | [], _ => rfl
  | [x], _ => rfl
  | x :: y :: r, h => by
    have hx := h x (by simp)
    rw [lineI_cons, if_neg (by rintro ⟨e, _⟩; exact hx e), lineI_no (fun z hz => h z (by simp at hz ⊢; exact .inr hz))]
    rfl
/-! ### blanks at the ends -/
def blanksI (l : List Int) : List Int := ((l.dropWhile (· == 32)).reverse.dropWhile (· == 32)).reverse
theorem blanksI_front (l : List Int) : blanksI (32 :: l) = blanksI l := by unfold blanksI; rw [List.dropWhile_cons_of_pos (by decide)]
theorem blanksI_nil : blanksI [] = [] := rfl
theorem blanksI_sub (l : List Int) : (blanksI l).Sublist l := by
  unfold blanksI
  have h1 := List.dropWhile_sublist (· == (32 : Int)) (l := (l.dropWhile (· == 32)).reverse)
  have h2 := h1.reverse
  rw [List.reverse_reverse] at h2
  exact h2.trans (List.dropWhile_sublist _)
theorem drop32_all : ∀ {l : List Int}, (∀ x ∈ l, x = 32) → l.dropWhile (· == (32 : Int)) = []
  | [], _ => rfl
  | x :: l, h => by
    rw [List.dropWhile_cons_of_pos (by simpa using h x (.head _))]
    exact drop32_all (fun y hy => h y (.tail _ hy))
theorem blanksI_back (l : List Int) : blanksI (l ++ [32]) = blanksI l := by
  unfold blanksI
  by_cases h : ∀ x ∈ l, x = 32
  · have e : l.dropWhile (· == (32 : Int)) = [] := drop32_all h
    have e2 : (l ++ [32]).dropWhile (· == (32 : Int)) = [] := by
      refine drop32_all (fun x hx => ?_)
      rcases List.mem_append.1 hx with hx | hx
      · exact h x hx
      · simpa using hx
    rw [e, e2]
  · have e : (l ++ [32]).dropWhile (· == (32 : Int)) = l.dropWhile (· == 32) ++ [32] := by
      induction l with
      | nil => exact absurd (fun x hx => by cases hx) h
      | cons y t ih =>
        by_cases hy : y = 32
        · subst hy
          rw [List.cons_append, List.dropWhile_cons_of_pos (by decide), List.dropWhile_cons_of_pos (by decide)]
          exact ih (fun h' => h (fun x hx => by rcases List.mem_cons.1 hx with rfl | hx; rfl; exact h' x hx))
        · rw [List.cons_append, List.dropWhile_cons_of_neg (by simpa using hy), List.dropWhile_cons_of_neg (by simpa using hy)]
          rfl
    rw [e, List.reverse_append]
    show (((32 : Int) :: (l.dropWhile (· == 32)).reverse).dropWhile (· == 32)).reverse = _
    rw [List.dropWhile_cons_of_pos (by decide)]
/-- What has no blank at its ends stays. -/
theorem blanksI_same {l : List Int} (h1 : l.head? ≠ some 32) (h2 : l.getLast? ≠ some 32) : blanksI l = l := by
  unfold blanksI
  have e1 : l.dropWhile (· == (32 : Int)) = l := by
    cases l with
    | nil => rfl
    | cons x t => rw [List.dropWhile_cons_of_neg (by simp at h1 ⊢; exact h1)]
  rw [e1]
  have e2 : l.reverse.dropWhile (· == (32 : Int)) = l.reverse := by
    have h3 : l.reverse.head? ≠ some 32 := by rw [List.head?_reverse]; exact h2
    cases hr : l.reverse with
    | nil => rfl
    | cons x t => rw [hr] at h3; rw [List.dropWhile_cons_of_neg (by simp at h3 ⊢; exact h3)]
  rw [e2, List.reverse_reverse]
theorem blanksI_ends {l : List Int} (h1 : l.head? ≠ some 32) (h2 : l.getLast? ≠ some 32) (a b : Nat) : blanksI (List.replicate a 32 ++ l ++ List.replicate b 32) = l := by
  have ha : ∀ a : Nat, ∀ m : List Int, blanksI (List.replicate a 32 ++ m) = blanksI m := by
    intro a
    induction a with
    | zero => intro m; rfl
    | succ a ih => intro m; rw [List.replicate_succ, List.cons_append, blanksI_front, ih]
  have hb : ∀ b : Nat, ∀ m : List Int, blanksI (m ++ List.replicate b 32) = blanksI m := by
    intro b
    induction b with
    | zero => intro m; rw [List.replicate_zero, List.append_nil]
    | succ b ih => intro m; rw [List.replicate_succ', ← List.append_assoc, blanksI_back, ih]
  rw [List.append_assoc, ha, hb, blanksI_same h1 h2]
/-! ### names and values -/
def NB (c : Int) : Prop := (65 ≤ c ∧ c ≤ 90) ∨ (97 ≤ c ∧ c ≤ 122) ∨ (48 ≤ c ∧ c ≤ 57) ∨ c = 45
instance (x : Int) : Decidable (NB x) := by unfold NB; infer_instance
def NameOk (most : Int) (l : List Int) : Prop := (∀ x ∈ l, NB x) ∧ 1 ≤ l.length ∧ (l.length : Int) ≤ most
instance (m : Int) (l : List Int) : Decidable (NameOk m l) := by unfold NameOk; infer_instance
def ValueOk (most : Int) (l : List Int) : Prop := (∀ x ∈ l, 32 ≤ x ∧ x ≤ 126) ∧ (l.length : Int) ≤ most ∧ (l = [] ∨ (l.getD 0 0 ≠ 32 ∧ l.getD (l.length - 1) 0 ≠ 32))
instance (m : Int) (l : List Int) : Decidable (ValueOk m l) := by unfold ValueOk; infer_instance
theorem ValueOk.ends {m : Int} {l : List Int} (h : ValueOk m l) : l.head? ≠ some 32 ∧ l.getLast? ≠ some 32 := by
  rcases h.2.2 with rfl | ⟨h1, h2⟩
  · exact ⟨by simp, by simp⟩
  · constructor
    · cases l with
      | nil => simp
      | cons x t => simpa using h1
    · intro e
      rw [List.getLast?_eq_getElem?] at e
      rw [List.getD_eq_getElem?_getD, e] at h2
      exact h2 rfl
/-! ### answers -/
abbrev HL := List (List Int × List Int)
structure RL where
  code : Int
  heads : HL
  body : List Int
  cut : Bool
def clI : List Int := [99, 111, 110, 116, 101, 110, 116, 45, 108, 101, 110, 103, 116, 104]
/-- A line as a header. -/
def headI (l : List Int) : Option (List Int × List Int) :=
  if behind [58] l = [] then none
  else if NameOk 20 (ahead [58] l) ∧ ValueOk 40 (blanksI ((behind [58] l).drop 1)) then some (ahead [58] l, blanksI ((behind [58] l).drop 1)) else none
/-- What a header tells of the length: wrong, nothing, a number. -/
def lenI (had : Option Int) (h : List Int × List Int) : Option (Option Int) :=
  if lowL h.1 = clI then (if had.isSome then none else (figI h.2 1 6).map some) else some had
def headsF : Nat → HL → Option Int → List Int → Option (HL × Option Int × List Int)
  | 0, _, _, _ => none
  | f + 1, hs, had, s => (lineI s).bind fun p =>
    if p.1 = [] then some (hs, had, p.2)
    else (headI p.1).bind fun h => if hs.length = 8 then none else (lenI had h).bind fun had' => headsF f (hs ++ [h]) had' p.2
theorem headsF_any : ∀ (f g : Nat) (hs : HL) (had : Option Int) (s : List Int), s.length < f → s.length < g → headsF f hs had s = headsF g hs had s
  | 0, _, _, _, s, h, _ => by omega
  | f + 1, 0, _, _, s, _, h => by omega
  | f + 1, g + 1, hs, had, s, hf, hg => by
    unfold headsF
    cases hl : lineI s with
    | none => rfl
    | some p =>
      obtain ⟨p1, p2⟩ := p
      have := lineI_len hl
      simp only [Option.bind_some]
      split
      · rfl
      · cases headI p1 with
        | none => rfl
        | some h =>
          simp only [Option.bind_some]
          split
          · rfl
          · cases lenI had h with
            | none => rfl
            | some h' => exact headsF_any f g _ _ _ (by omega) (by omega)
def headsI (hs : HL) (had : Option Int) (s : List Int) : Option (HL × Option Int × List Int) := headsF (s.length + 1) hs had s
theorem headsI_step (hs : HL) (had : Option Int) (s : List Int) : headsI hs had s = (lineI s).bind fun p =>
    if p.1 = [] then some (hs, had, p.2)
    else (headI p.1).bind fun h => if hs.length = 8 then none else (lenI had h).bind fun had' => headsI (hs ++ [h]) had' p.2 := by
  unfold headsI
  rw [headsF]
  cases hl : lineI s with
  | none => rfl
  | some p =>
    obtain ⟨p1, p2⟩ := p
    have := lineI_len hl
    simp only [Option.bind_some]
    split
    · rfl
    · cases headI p1 with
      | none => rfl
      | some h =>
        simp only [Option.bind_some]
        split
        · rfl
        · cases lenI had h with
          | none => rfl
          | some h' => exact headsF_any _ _ _ _ _ (by omega) (by omega)
def verI : List Int := [72, 84, 84, 80, 47, 49, 46, 49, 32]
/-- What a first line says. -/
def firstI (l : List Int) : Option Int :=
  if begI verI l ∧ 12 ≤ l.length then (figI ((l.drop 9).take 3) 3 3).bind fun n => if n < 100 ∨ 599 < n then none else some n else none
def bodyI (had : Option Int) (s : List Int) : List Int × Bool := match had with
  | none => (s, false)
  | some n => (s.take n.toNat, decide ((s.length : Int) < n))
def replyI (s : List Int) : Option RL := (lineI s).bind fun p => (firstI p.1).bind fun c => (headsI [] none p.2).map fun q => ⟨c, q.1, (bodyI q.2.1 q.2.2).1, (bodyI q.2.1 q.2.2).2⟩
/-! ### prints -/
def headP (h : List Int × List Int) : List Int := h.1 ++ ([58, 32] ++ (h.2 ++ [13, 10]))
def headsP (hs : HL) : List Int := hs.flatMap headP
def replyP (code : Nat) (hs : HL) (body : List Int) : List Int := verI ++ (digs code ++ ([32, 45, 13, 10] ++ (headsP hs ++ ([13, 10] ++ body))))
def HeadOk (h : List Int × List Int) : Prop := NameOk 20 h.1 ∧ ValueOk 40 h.2
theorem nb_no {x : Int} (h : NB x) : x ≠ 58 ∧ x ≠ 13 := by unfold NB at h; omega
/-- A line of a name, blanks, a value, blanks. -/
theorem headI_line {n v : List Int} (h : HeadOk (n, v)) (a b : Nat) : headI (n ++ 58 :: (List.replicate a 32 ++ v ++ List.replicate b 32)) = some (n, v) := by
  have hn : ∀ y ∈ n, ([58] : List Int).contains y = false := fun y hy => by
    rw [← Bool.not_eq_true]; intro hc; have := (nb_no (h.1.1 y hy)).1; simp at hc; exact this hc
  have hs := ahead_stop (st := [58]) (r := List.replicate a 32 ++ v ++ List.replicate b 32) hn (x := 58) (by decide)
  have he := h.2.ends
  unfold headI
  rw [hs.1, hs.2, if_neg (by simp), List.drop_succ_cons, List.drop_zero, blanksI_ends he.1 he.2]
  exact if_pos h
theorem line_ne {n v : List Int} (h : HeadOk (n, v)) (r : List Int) : n ++ 58 :: r ≠ [] := by simp
theorem line_13 {n v : List Int} (h : HeadOk (n, v)) (a b : Nat) : ∀ x ∈ n ++ 58 :: (List.replicate a 32 ++ v ++ List.replicate b 32), x ≠ 13 := by
  intro x hx
  simp only [List.mem_append, List.mem_cons, List.mem_replicate] at hx
  rcases hx with hx | rfl | (⟨_, rfl⟩ | hx) | ⟨_, rfl⟩
  · exact (nb_no (h.1.1 x hx)).2
  · decide
  · decide
  · have := h.2.1 x hx; omega
  · decide
/-- A header's line is read, whatever blanks stand beside its value. -/
theorem headsI_line {n v : List Int} (h : HeadOk (n, v)) (a b : Nat) (hs : HL) (had : Option Int) (s : List Int) :
    headsI hs had (n ++ 58 :: (List.replicate a 32 ++ v ++ List.replicate b 32) ++ (13 :: 10 :: s)) = if hs.length = 8 then none else (lenI had (n, v)).bind fun had' => headsI (hs ++ [(n, v)]) had' s := by
  rw [headsI_step, lineI_app _ (line_13 h a b)]
  simp only [Option.bind_some]
  rw [if_neg (line_ne h _), headI_line h a b]
  rfl
theorem headsI_end (hs : HL) (had : Option Int) (s : List Int) : headsI hs had (13 :: 10 :: s) = some (hs, had, s) := by
  rw [headsI_step, show (13 : Int) :: 10 :: s = [] ++ (13 :: 10 :: s) from rfl, lineI_app _ (by simp)]
  rfl
/-- Printed headers, read. -/
def lensI : Option Int → HL → Option (Option Int)
  | had, [] => some had
  | had, h :: hs => (lenI had h).bind fun had' => lensI had' hs
theorem headsI_print : ∀ (hs ks : HL) (had : Option Int) (s : List Int), (∀ h ∈ hs, HeadOk h) → ks.length + hs.length ≤ 8 →
    headsI ks had (headsP hs ++ (13 :: 10 :: s)) = (lensI had hs).map fun had' => (ks ++ hs, had', s)
  | [], ks, had, s, _, _ => by
    show headsI ks had (13 :: 10 :: s) = _
    rw [headsI_end]
    simp [lensI]
  | h :: hs, ks, had, s, hok, hl => by
    obtain ⟨n, v⟩ := h
    have h0 := hok (n, v) (.head _)
    have e : headsP ((n, v) :: hs) ++ (13 :: 10 :: s) = n ++ 58 :: (List.replicate 1 32 ++ v ++ List.replicate 0 32) ++ (13 :: 10 :: (headsP hs ++ (13 :: 10 :: s))) := by
      simp [headsP, headP]
    simp only [List.length_cons] at hl
    rw [e, headsI_line h0, if_neg (by omega)]
    simp only [lensI]
    cases lenI had (n, v) with
    | none => rfl
    | some had' =>
      simp only [Option.bind_some]
      rw [headsI_print hs (ks ++ [(n, v)]) had' s (fun x hx => hok x (.tail _ hx)) (by rw [List.length_append]; simp; omega)]
      simp
theorem digs_three {c : Nat} (h1 : 100 ≤ c) (h2 : c ≤ 999) : (digs c).length = 3 := by
  rw [digs_step (by omega) (by omega), digs_step (by omega) (by omega), digs_small (by omega)]; rfl
theorem first_print {c : Nat} (h1 : 100 ≤ c) (h2 : c ≤ 599) (t : List Int) : firstI (verI ++ (digs c ++ t)) = some (c : Int) := by
  have h3 := digs_three h1 (by omega)
  unfold firstI
  rw [if_pos ⟨by rw [begI_iff, List.take_left'] ; rfl, by rw [List.length_append, List.length_append, h3]; simp [verI]; omega⟩]
  have e : ((verI ++ (digs c ++ t)).drop 9).take 3 = digs c := by
    rw [show (9 : Nat) = verI.length from rfl, List.drop_left, ← h3, List.take_left']; rfl
  rw [e]
  unfold figI
  rw [if_pos ⟨by rw [h3]; decide, by rw [h3]; decide, digs_dig c⟩, fig_digs (by omega)]
  simp only [Option.bind_some]
  rw [if_neg (by omega)]
theorem ver_13 : ∀ x ∈ verI, x ≠ 13 := by decide
/-- A printed answer, read. -/
theorem replyI_print {c : Nat} (h1 : 100 ≤ c) (h2 : c ≤ 599) {hs : HL} (hok : ∀ h ∈ hs, HeadOk h) (hl : hs.length ≤ 8) (body : List Int) :
    replyI (replyP c hs body) = (lensI none hs).map fun had => ⟨c, hs, (bodyI had body).1, (bodyI had body).2⟩ := by
  have e : replyP c hs body = (verI ++ (digs c ++ [32, 45])) ++ (13 :: 10 :: (headsP hs ++ (13 :: 10 :: body))) := by simp [replyP]
  have h13 : ∀ x ∈ verI ++ (digs c ++ [32, 45]), x ≠ 13 := by
    intro x hx
    rcases List.mem_append.1 hx with hx | hx
    · exact ver_13 x hx
    · rcases List.mem_append.1 hx with hx | hx
      · have := digs_dig c x hx; omega
      · simp at hx; omega
  unfold replyI
  rw [e, lineI_app _ h13]
  simp only [Option.bind_some]
  rw [first_print h1 h2, Option.bind_some, headsI_print hs [] none body hok (by simpa using hl)]
  cases lensI none hs <;> rfl
end Go.Proofs.YtfgaikacijdodaaGreatDoor
