import Derived.Test.YthfojpcibnfmgaaGreatV32
import Derived.Test.YthfojpcibnfmgaaGreatV11
import Derived.Deep.AppendLies
import Derived.Deep.DeepCutAuto
set_option maxRecDepth 100000
set_option maxHeartbeats 16000000
namespace Go.Proofs.YthfojpcibnfmgaaGreat
variable {W w w':World}
variable {M b bl dc dn e e' fr k m n nb pc pn rb:Nat}
variable {dv fv mv ov pv:Value}
variable {off:Bool}
variable {a da pa:Option Addr}
variable {Fs:List ByteArray}
variable {Ds:List (List Pu)}
variable {X:Nat->Prop}
variable {xs:List Value}
open Go.RowKit
theorem Rs5.set4{g:Nat}{sure:Int}(h:Rs5 w g nb fr bl fv dv sure ov off)(u:Value):Rs5 (w.setCell ⟨g,4,none⟩ u) g nb fr bl fv u sure ov off:=by
 unfold Rs5 at h ⊢
 simp only[World.setCell,Array.getElem?_modify]
 rw[h]
 simp
theorem Rs5.set5{g:Nat}{sure:Int}(h:Rs5 w g nb fr bl fv dv sure ov off)(u:Int):Rs5 (w.setCell ⟨g,5,none⟩ (.int .i64 u)) g nb fr bl fv dv u ov off:=by
 unfold Rs5 at h ⊢
 simp only[World.setCell,Array.getElem?_modify]
 rw[h]
 simp
theorem Rs5.set6{g:Nat}{sure:Int}(h:Rs5 w g nb fr bl fv dv sure ov off)(u:Value):Rs5 (w.setCell ⟨g,6,none⟩ u) g nb fr bl fv dv sure u off:=by
 unfold Rs5 at h ⊢
 simp only[World.setCell,Array.getElem?_modify]
 rw[h]
 simp
theorem Rs5.set7{g:Nat}{sure:Int}(h:Rs5 w g nb fr bl fv dv sure ov off)(u:Bool):Rs5 (w.setCell ⟨g,7,none⟩ (.bool u)) g nb fr bl fv dv sure ov u:=by
 unfold Rs5 at h ⊢
 simp only[World.setCell,Array.getElem?_modify]
 rw[h]
 simp
def Rt5 (w:World) (g rb:Nat) (pv mv:Value) (over:Bool):Prop:=w.heap[g]?=some (.cells #[.pointer (some ⟨rb,0,none⟩),pv,mv,.bool over] 115 (0,0))
theorem Rt5.cell{g:Nat}{over:Bool}(h:Rt5 w g rb pv mv over)(i:Nat):w.cell? ⟨g,i,none⟩=#[.pointer (some ⟨rb,0,none⟩),pv,mv,.bool over][i]?:=by
 unfold Rt5 at h
 simp[World.cell?,h]
theorem Rt5.frozen{g:Nat}{over:Bool}(h:Rt5 w g rb pv mv over)(i:Nat):w.frozen? ⟨g,i,none⟩=false:=by
 unfold Rt5 at h
 simp[World.frozen?,h]
theorem Rt5.lt{g:Nat}{over:Bool}(h:Rt5 w g rb pv mv over):g<w.heap.size:=(Array.getElem?_eq_some_iff.1 h).1
theorem Rt5.keep{g:Nat}{over:Bool}(h:Rt5 w g rb pv mv over)(hk:w'.heap[g]?=w.heap[g]?):Rt5 w' g rb pv mv over:=hk.trans h
theorem Rt5.ne{g:Nat}{over:Bool}(h:Rt5 w g rb pv mv over){NB FR BL:Nat}{sure:Int}(hs:Rs5 w b NB FR BL fv dv sure ov off):g≠b:=fun e=>by
 subst e
 unfold Rt5 at h
 unfold Rs5 at hs
 rw[h]at hs
 injection hs with q
 injection q with _ q
 exact absurd q (by decide)
theorem Rt5.set1{g:Nat}{over:Bool}(h:Rt5 w g rb pv mv over)(u:Value):Rt5 (w.setCell ⟨g,1,none⟩ u) g rb u mv over:=by
 unfold Rt5 at h ⊢
 simp only[World.setCell,Array.getElem?_modify]
 rw[h]
 simp
theorem Rt5.set2{g:Nat}{over:Bool}(h:Rt5 w g rb pv mv over)(u:Value):Rt5 (w.setCell ⟨g,2,none⟩ u) g rb pv u over:=by
 unfold Rt5 at h ⊢
 simp only[World.setCell,Array.getElem?_modify]
 rw[h]
 simp
theorem Rt5.set3{g:Nat}{over:Bool}(h:Rt5 w g rb pv mv over)(u:Bool):Rt5 (w.setCell ⟨g,3,none⟩ (.bool u)) g rb pv mv u:=by
 unfold Rt5 at h ⊢
 simp only[World.setCell,Array.getElem?_modify]
 rw[h]
 simp
theorem alloc_new{S:Nat}(h:W.heap.size=S)(o:Obj):(W.alloc o).heap[S]?=some o:=by
 subst h
 exact Array.getElem?_push_size
def stC (off over:Bool):Int:=if off then 24 else if over then 51 else 0
theorem rstate_any{g:Nat}{over:Bool}(h:Rt5 w g rb pv mv over){sure:Int}(hs:Rs5 w rb nb fr bl fv dv sure ov off):Calls Tryz.prog 84 #[.pointer (some ⟨g,0,none⟩)] w fun e w'=>e=.returned (.int .i64 (stC off over))/\w'=w:=by
 have c0:=h.cell 0
 have c3:=h.cell 3
 have s7:=hs.cell 7
 simp at c0 c3 s7
 clear h hs
 cases off
 ·cases over
  ·go_enter Tryz.func84,Tryz.ntmps84
   go_wp2
   go_ret
   exact⟨rfl,rfl⟩
  ·go_enter Tryz.func84,Tryz.ntmps84
   go_wp2
   go_ret
   exact⟨rfl,rfl⟩
 ·go_enter Tryz.func84,Tryz.ntmps84
  go_wp2
  go_ret
  exact⟨rfl,rfl⟩
theorem rstate_nil(w:World):Calls Tryz.prog 84 #[.pointer none] w fun e w'=>e=.returned (.int .i64 1)/\w'=w:=by
 go_enter Tryz.func84,Tryz.ntmps84
 go_wp2
 go_ret
 exact⟨rfl,rfl⟩
theorem rbegin_no{sure:Int}{ov:Option Addr}(hs:Rs5 w rb nb fr bl fv dv sure (.pointer ov) off)(hc:off=true\/ov≠none):Calls Tryz.prog 83 #[.pointer (some ⟨rb,0,none⟩)] w fun e w'=>e=.returned (.tuple #[.pointer none,.int .i64 (if off then 24 else 50)])/\w'=w:=by
 have s6:=hs.cell 6
 have s7:=hs.cell 7
 simp at s6 s7
 clear hs
 cases off
 ·cases ov with
  | none=>simp at hc
  | some a=>
   clear hc
   go_enter Tryz.func83,Tryz.ntmps83
   go_wp2
   go_ret2
   exact⟨rfl,rfl⟩
 ·clear hc
  go_enter Tryz.func83,Tryz.ntmps83
  go_wp2
  go_ret2
  exact⟨rfl,rfl⟩
theorem rbegin_ok{sure:Int}(hs:Rs5 w rb nb fr bl fv dv sure (.pointer none) false):Calls Tryz.prog 83 #[.pointer (some ⟨rb,0,none⟩)] w fun e w'=>e=.returned (.tuple #[.pointer (some ⟨w.heap.size,0,none⟩),.int .i64 0])/\Rt5 w' w.heap.size rb (.slice none 0 0) (.slice none 0 0) false/\Rs5 w' rb nb fr bl fv dv sure (.pointer (some ⟨w.heap.size,0,none⟩)) false/\But (fun k=>k=rb) w w':=by
 have hl:=hs.lt
 have s6:=hs.cell 6
 have s7:=hs.cell 7
 simp at s6 s7
 have FIN:Hid (∀w',w'=(w.setCell ⟨rb,6,none⟩ (.pointer (some ⟨w.heap.size,0,none⟩))).alloc (.cells #[.pointer (some ⟨rb,0,none⟩),.slice none 0 0,.slice none 0 0,.bool false] 115)->Rt5 w' w.heap.size rb (.slice none 0 0) (.slice none 0 0) false/\Rs5 w' rb nb fr bl fv dv sure (.pointer (some ⟨w.heap.size,0,none⟩)) false/\But (fun k=>k=rb) w w'):=fun w' e=>by
  subst e
  have hs1:=hs.set6 (.pointer (some ⟨w.heap.size,0,none⟩))
  have hz:(w.setCell ⟨rb,6,none⟩ (.pointer (some ⟨w.heap.size,0,none⟩))).heap.size=w.heap.size:=by simp[World.setCell]
  refine⟨?_,hs1.keep (Below.heap_alloc _ _ _ hs1.lt),((But.refl (fun k=>k=rb) w).setCell (p:=⟨rb,6,none⟩) rfl _).alloc _⟩
  exact alloc_new hz _
 have f6:=hs.frozen 6
 clear hs
 go_enter Tryz.func83,Tryz.ntmps83
 go_wp2
 go_ret2
 exact⟨rfl,FIN.out _ rfl⟩
theorem rflush_off{sure:Int}(hs:Rs5 w rb nb fr bl fv dv sure ov true):Calls Tryz.prog 42 #[.pointer (some ⟨rb,0,none⟩)] w fun e w'=>e=.returned (.int .i64 24)/\w'=w:=by
 have s7:=hs.cell 7
 simp at s7
 clear hs
 go_enter Tryz.func42,Tryz.ntmps42
 go_wp2
 go_ret
 exact⟨rfl,rfl⟩
theorem rflush_on{sure:Int}(hs:Rs5 w rb nb fr bl fv (.slice da dn dc) sure ov false):Calls Tryz.prog 42 #[.pointer (some ⟨rb,0,none⟩)] w fun e w'=>e=.returned (.int .i64 0)/\Rs5 w' rb nb fr bl fv (.slice da dn dc) (dn:Int) ov false/\But (fun k=>k=rb) w w':=by
 have s7:=hs.cell 7
 have s4:=hs.cell 4
 have s5:=hs.cell 5
 have f5:=hs.frozen 5
 simp at s7 s4 s5
 have FIN:Hid (Rs5 (w.setCell ⟨rb,5,none⟩ (.int .i64 (dn:Int))) rb nb fr bl fv (.slice da dn dc) (dn:Int) ov false/\But (fun k=>k=rb) w (w.setCell ⟨rb,5,none⟩ (.int .i64 (dn:Int)))):=⟨hs.set5 _,(But.refl (fun k=>k=rb) w).setCell (p:=⟨rb,5,none⟩) rfl _⟩
 clear hs
 go_enter Tryz.func42,Tryz.ntmps42
 go_wp2
 go_ret
 exact⟨rfl,FIN.out⟩
theorem rowns_nil(rb:Nat):Calls Tryz.prog 44 #[.pointer (some ⟨rb,0,none⟩),.pointer none] w fun e w'=>e=.returned (.int .i64 1)/\w'=w:=by
 go_enter Tryz.func44,Tryz.ntmps44
 go_wp2
 go_ret
 exact⟨rfl,rfl⟩
theorem rowns_off{sure:Int}(hs:Rs5 w rb nb fr bl fv dv sure ov true)(a:Addr):Calls Tryz.prog 44 #[.pointer (some ⟨rb,0,none⟩),.pointer (some a)] w fun e w'=>e=.returned (.int .i64 24)/\w'=w:=by
 have s7:=hs.cell 7
 simp at s7
 clear hs
 go_enter Tryz.func44,Tryz.ntmps44
 go_wp2
 go_ret
 exact⟨rfl,rfl⟩
theorem info67:(Tryz.prog.info? 67).map (fun i=>i.size)=some 8:=by kernel_rfl
theorem neq_rsame(w:World)(a:Addr):(binOp .neq 52 (.pointer (some a)) (.pointer (some a))).run Tryz.prog w=.ok (.bool false) w:=by
 obtain⟨j,hj,_⟩:=Option.map_eq_some_iff.1 info67
 have h:∀d:Nat,(Op.equalIn (d+1) 52 (.pointer (some a)) (.pointer (some a))).run Tryz.prog w=.ok true w:=fun d=>by
  simp[Op.equalIn,run_underlying Tryz.underlying52,sizeOf,typeInfo,hj,run_sameAddr_same]
 simp only[binOp]
 simp[Op.equal,Op.maxDepth,h 9999]
theorem rowns_own{sure:Int}(hs:Rs5 w rb nb fr bl fv dv sure ov false){g:Nat}{over:Bool}(h:Rt5 w g rb pv mv over):Calls Tryz.prog 44 #[.pointer (some ⟨rb,0,none⟩),.pointer (some ⟨g,0,none⟩)] w fun e w'=>e=.returned (.int .i64 (stC false over))/\w'=w:=by
 have HS:=hid (rstate_any h hs)
 have s7:=hs.cell 7
 have c0:=h.cell 0
 simp at s7 c0
 have hq:=neq_rsame w ⟨rb,0,none⟩
 clear hs h
 generalize stC false over=code at *
 go_enter Tryz.func44,Tryz.ntmps44
 go_wp2_with fail
 refine Calls.mono HS.out ?_
 rintro e w2 ⟨rfl,hw2⟩
 rw[hw2]
 clear hw2
 go_wp2
 go_ret
 exact⟨rfl,rfl⟩
theorem rread_off{sure:Int}(hs:Rs5 w rb nb fr bl fv dv sure ov true)(y:Int):Calls Tryz.prog 38 #[.pointer (some ⟨rb,0,none⟩),.int .i64 y] w fun e w'=>e=.returned (.tuple #[.string ByteArray.empty,.int .i64 24])/\w'=w:=by
 have s7:=hs.cell 7
 simp at s7
 clear hs
 go_enter Tryz.func38,Tryz.ntmps38
 go_wp2
 go_ret2
 exact⟨rfl,rfl⟩
theorem rread_far{sure:Int}(hs:Rs5 w rb nb fr bl fv dv sure ov false)(hnb:nb<=524288)(hfit:fr+bl<=nb)(y:Int)(hh:homeR nb fr bl y≠0):Calls Tryz.prog 38 #[.pointer (some ⟨rb,0,none⟩),.int .i64 y] w fun e w'=>e=.returned (.tuple #[.string ByteArray.empty,.int .i64 42])/\Below w.heap.size w w':=by
 have HA:=hid (rat5_any hs hnb hfit y)
 have h42:homeR nb fr bl y=42:=by
  unfold homeR at hh ⊢
  split
  ·rfl
  ·rename_i q;rw[if_neg q]at hh;exact absurd rfl hh
 rw[h42]at HA
 have s7:=hs.cell 7
 simp at s7
 clear hs hh h42
 go_enter Tryz.func38,Tryz.ntmps38
 go_wp2_with fail
 refine Calls.mono HA.out ?_
 rintro e w2 ⟨rfl,b2⟩
 have B2:=hid b2
 clear b2
 go_wp2
 go_ret2
 exact⟨rfl,B2.out⟩
theorem rread_home{sure:Int}(h:Rs5 w rb nb fr bl fv (.slice da Ds.length dc) sure ov false)(hDb:∀w',Below w.heap.size w w'->StrR w' fv Fs/\DoneL w' da Ds)(hnb:nb<=524288)(hfit:fr+bl<=nb)(y:Nat)(hy:homeR nb fr bl (y:Int)=0)(F:ByteArray)(hyF:Fs[y]?=some F)(hFl:Fs.length=nb)(hkb:Ds.length<=1073741823)(hpl:∀ps∈Ds,ps.length<=1073741823):Calls Tryz.prog 38 #[.pointer (some ⟨rb,0,none⟩),.int .i64 (y:Int)] w fun e w'=>e=.returned (.tuple #[.string (holdsU (y:Int) F Ds),.int .i64 0])/\Below w.heap.size w w':=by
 have HA:=hid (rat5_any h hnb hfit (y:Int))
 rw[hy]at HA
 have HH:Hid (∀w2,Below w.heap.size w w2->Calls Tryz.prog 58 #[.pointer (some ⟨rb,0,none⟩),.int .i64 (y:Int),.int .i64 (Ds.length:Int)] w2 fun e w'=>e=.returned (.string (holdsU (y:Int) F Ds))/\w'=w2):=fun w2 b=>by
  obtain⟨q1,q2⟩:=hDb w2 b
  have:=rholds5_any (h.keep (b.block rb h.lt)) q1 q2 hnb y F hyF hFl Ds.length (Nat.le_refl _) hkb hpl
  rw[List.take_length]at this
  exact this
 have HC:Hid (∀w2,Below w.heap.size w w2->w2.cell? ⟨rb,4,none⟩=some (.slice da Ds.length dc)):=fun w2 b=>by
  have:=(h.keep (b.block rb h.lt)).cell 4
  simpa using this
 have s7:=h.cell 7
 simp at s7
 clear h hDb hy hyF hFl hpl
 generalize holdsU (y:Int) F Ds=S at *
 generalize Ds.length=nD at *
 go_enter Tryz.func38,Tryz.ntmps38
 go_wp2_with fail
 refine Calls.mono HA.out ?_
 rintro e w2 ⟨rfl,b2⟩
 have c4:=HC.out w2 b2
 have HH2:=hid (HH.out w2 b2)
 have B2:=hid b2
 clear b2 HC HH
 go_wp2_with fail
 refine Calls.mono HH2.out ?_
 rintro e w3 ⟨rfl,hw3⟩
 rw[hw3]
 clear hw3
 go_wp2
 go_ret2
 exact⟨rfl,B2.out⟩
theorem rend_any{sure:Int}(hs:Rs5 w rb nb fr bl fv dv sure ov off){g:Nat}{over:Bool}(h:Rt5 w g rb pv mv over):Calls Tryz.prog 121 #[.pointer (some ⟨g,0,none⟩)] w fun e w'=>e=.returned (.tuple #[])/\Rt5 w' g rb pv mv true/\Rs5 w' rb nb fr bl fv dv sure (.pointer none) off/\But (fun k=>k=rb\/k=g) w w':=by
 have hne:=h.ne hs
 have c3:=h.cell 3
 have f3:=h.frozen 3
 have h1:=h.set3 true
 have hs1:Rs5 (w.setCell ⟨g,3,none⟩ (.bool true)) rb nb fr bl fv dv sure ov off:=hs.keep (Below.heap_setCell _ _ _ _ (fun e=>hne e.symm))
 have c0:=h1.cell 0
 have s6:=hs1.cell 6
 have f6:=hs1.frozen 6
 simp at c3 c0 s6
 have FIN:Hid (Rt5 ((w.setCell ⟨g,3,none⟩ (.bool true)).setCell ⟨rb,6,none⟩ (.pointer none)) g rb pv mv true/\Rs5 ((w.setCell ⟨g,3,none⟩ (.bool true)).setCell ⟨rb,6,none⟩ (.pointer none)) rb nb fr bl fv dv sure (.pointer none) off/\But (fun k=>k=rb\/k=g) w ((w.setCell ⟨g,3,none⟩ (.bool true)).setCell ⟨rb,6,none⟩ (.pointer none))) :=
  ⟨h1.keep (Below.heap_setCell _ _ _ _ hne),hs1.set6 _,((But.refl (fun k=>k=rb\/k=g) w).setCell (p:=⟨g,3,none⟩) (.inr rfl) _).setCell (p:=⟨rb,6,none⟩) (.inl rfl) _⟩
 clear hs h h1 hs1
 go_enter Tryz.func121,Tryz.ntmps121
 go_wp2
 go_end0
 exact⟨rfl,FIN.out⟩
theorem rabort_no{v:Value}{code:Int}(HS:Calls Tryz.prog 84 #[v] w fun e w'=>e=.returned (.int .i64 code)/\w'=w)(hc:(code == 0)=false):Calls Tryz.prog 82 #[v] w fun e w'=>e=.returned (.int .i64 code)/\w'=w:=by
 have HS:=hid HS
 go_enter Tryz.func82,Tryz.ntmps82
 go_wp2_with fail
 refine Calls.mono HS.out ?_
 rintro e w2 ⟨rfl,hw2⟩
 rw[hw2]
 clear hw2
 go_wp2
 go_ret
 exact⟨rfl,rfl⟩
theorem rabort_ok{sure:Int}(hs:Rs5 w rb nb fr bl fv dv sure ov false){g:Nat}(h:Rt5 w g rb pv mv false):Calls Tryz.prog 82 #[.pointer (some ⟨g,0,none⟩)] w fun e w'=>e=.returned (.int .i64 0)/\Rt5 w' g rb pv mv true/\Rs5 w' rb nb fr bl fv dv sure (.pointer none) false/\But (fun k=>k=rb\/k=g) w w':=by
 have HS:=hid (rstate_any h hs)
 have e0:stC false false=0:=rfl
 rw[e0]at HS
 have HE:=hid (rend_any hs h)
 clear hs h e0
 go_enter Tryz.func82,Tryz.ntmps82
 go_wp2_with fail
 refine Calls.mono HS.out ?_
 rintro e w2 ⟨rfl,hw2⟩
 rw[hw2]
 clear hw2
 go_wp2_with fail
 refine Calls.mono HE.out ?_
 rintro e w3 ⟨rfl,q⟩
 have FIN:=hid q
 clear q
 go_wp2
 go_ret
 exact⟨rfl,FIN.out⟩
open Go.RowKit
theorem cell_lt{p:Addr}{v:Value}(h:w.cell? p=some v):p.block<w.heap.size:=by
 unfold World.cell? at h
 cases e:w.heap[p.block]? with
 | none=>rw[e]at h;simp at h
 | some o=>exact (Array.getElem?_eq_some_iff.1 e).1
theorem cell_below(hb:Below w.heap.size w w'){p:Addr}{v:Value}(h:w.cell? p=some v):w'.cell? p=some v:=(hb.cell (cell_lt h)).trans h
theorem PutsL.below{ps:List Pu}(h:PutsL w a ps)(hb:Below w.heap.size w w'):PutsL w' a ps:=fun i q hq=>by
 obtain⟨g,e,h1,h2⟩:=h i q hq
 exact⟨g,e,cell_below hb h1,cell_below hb h2⟩
theorem PutsL.but{ps:List Pu}(h:PutsL w a ps)(hb:But X w w')(hx:∀g o n,a=some ⟨g,o,n⟩->¬X g):PutsL w' a ps:=fun i q hq=>by
 obtain⟨g,e,h1,h2⟩:=h i q hq
 have hg:=hx g 0 none e
 exact⟨g,e,(hb.cell (cell_lt h1) hg).trans h1,(hb.cell (cell_lt h2) hg).trans h2⟩
theorem DoneL.below(h:DoneL w a Ds)(hb:Below w.heap.size w w'):DoneL w' a Ds:=fun i ps hq=>by
 obtain⟨g,pa,pc,e,h1,h2⟩:=h i ps hq
 exact⟨g,pa,pc,e,cell_below hb h1,h2.below hb⟩
theorem StrR.below{v:Value}{xs:List ByteArray}(h:StrR w v xs)(hb:Below w.heap.size w w'):StrR w' v xs:=by
 obtain⟨a,c,e,h⟩:=h
 refine⟨a,c,e,fun i S hi=>?_⟩
 obtain⟨g,h1,h2,h3⟩:=h i S hi
 exact⟨g,h1,Nat.lt_of_lt_of_le h2 hb.size,cell_below hb h3⟩
def puCells (ps:List Pu):List Value:=ps.flatMap fun q=>[.int .i64 q.1,.string q.2]
theorem puCells_snoc(ps:List Pu)(q:Pu):puCells (ps++[q])=puCells ps++[.int .i64 q.1,.string q.2]:=by simp[puCells]
theorem puCells_length(ps:List Pu):(puCells ps).length=ps.length * 2:=by
 induction ps with
 | nil=>rfl
 | cons q ps ih=>
  show ([_,_]++puCells ps).length=_
  rw[List.length_append,ih]
  simp
  omega
theorem puCells_get(ps:List Pu)(i:Nat)(q:Pu)(h:ps[i]?=some q):(puCells ps)[i * 2]?=some (.int .i64 q.1)/\(puCells ps)[i * 2+1]?=some (.string q.2):=by
 induction ps generalizing i with
 | nil=>simp at h
 | cons r ps ih=>
  show ([_,_]++puCells ps)[i * 2]?=_/\([_,_]++puCells ps)[i * 2+1]?=_
  cases i with
  | zero=>
   obtain rfl:r=q:=by simpa using h
   exact⟨rfl,rfl⟩
  | succ i=>
   have h':ps[i]?=some q:=by simpa using h
   obtain⟨h1,h2⟩:=ih i h'
   have e1:(i+1) * 2=i * 2+2:=by omega
   rw[e1]
   exact⟨h1,h2⟩
theorem puCells_take(ps:List Pu)(k:Nat):puCells (ps.take k)=(puCells ps).take (k * 2):=by
 induction ps generalizing k with
 | nil=>simp[puCells]
 | cons r ps ih=>
  cases k with
  | zero=>rfl
  | succ k=>
   have e1:(k+1) * 2=k * 2+1+1:=by omega
   rw[e1]
   show [_,_]++puCells (ps.take k)=([_,_]++puCells ps).take (k * 2+1+1)
   rw[ih k]
   rfl
theorem PutsL.of_row{base:Nat}{v:Value}{ps:List Pu}(h:w.ownsRow base 150 2 v n (puCells ps))(hn:ps.length=n):∃a c,v=.slice a n c/\PutsL w a ps:=by
 obtain⟨a,c,rfl,_⟩:=owns_slice h
 refine⟨a,c,rfl,fun i q hq=>?_⟩
 have hil:i<ps.length:=(List.getElem?_eq_some_iff.1 hq).1
 rcases h.2 with ⟨_,q0⟩ | ⟨g,cap,cur,q1,_⟩
 ·omega
 ·have e:a=some ⟨g,0,none⟩:=by injection q1
  subst e
  obtain⟨h1,h2⟩:=puCells_get ps i q hq
  exact⟨g,rfl,(World.ownsRow.cellAt h (i * 2) (by omega)).trans h1,(World.ownsRow.cellAt h (i * 2+1) (by omega)).trans h2⟩
theorem row_cut{base size g cap:Nat}(h:w.ownsRow base e size (.slice (some ⟨g,0,none⟩) n cap) n xs)(hm:m<=n):w.ownsRow base e size (.slice (some ⟨g,0,none⟩) m cap) m (xs.take (m * size)):=by
 obtain⟨hl,h⟩:=h
 have hms:m * size<=n * size:=Nat.mul_le_mul_right _ hm
 rcases h with ⟨q,_⟩ | ⟨g',cap',cur,q,h1,h2,h3,h4,h5,h6⟩
 ·cases q
 ·cases q
  refine⟨by simp at hl ⊢;omega,.inr ⟨g,cap,cur,rfl,h1,h2,by omega,h4,h5,?_⟩⟩
  rw[<- h6,List.take_take]
  congr 1
  omega
structure Rtx (w:World) (g rb:Nat) (pv mv:Value) (ps:List Pu) (ks:List Nat):Prop where
 blk:Rt5 w g rb pv mv false
 pr:w.ownsRow 0 150 2 pv ps.length (puCells ps)
 mr:w.ownsRow 0 3 1 mv ks.length (ks.map fun (k:Nat)=>Value.int .i64 (k:Int))
theorem rowKind{base size:Nat}{v:Value}(h:w.ownsRow base e size v n xs)(hk:v.ownBlock=some k):∃cur,w.heap[k]?=some (.cells cur e (0,0)):=by
 rcases h.2 with ⟨rfl,_⟩ | ⟨g,cap,cur,rfl,_,hg,_⟩
 ·simp[Value.ownBlock]at hk
 ·have:g=k:=by simpa [Value.ownBlock] using hk
  subst this
  exact⟨cur,hg⟩
theorem kind_ne{g:Nat}{c c':Array Value}(h:w.heap[g]?=some (.cells c e (0,0)))(h':w.heap[k]?=some (.cells c' e' (0,0)))(he:e≠e'):g≠k:=fun q=>by
 subst q
 rw[h]at h'
 injection h' with h'
 injection h' with _ h'
 exact he h'
theorem Rtx.keep{g:Nat}{ps:List Pu}{ks:List Nat}(h:Rtx w g rb pv mv ps ks)(hg:w'.heap[g]?=w.heap[g]?)(hp:∀k,pv.ownBlock=some k->w'.heap[k]?=w.heap[k]?)(hm:∀k,mv.ownBlock=some k->w'.heap[k]?=w.heap[k]?):Rtx w' g rb pv mv ps ks :=
 ⟨h.blk.keep hg,owns_keep h.pr hp,owns_keep h.mr hm⟩
theorem rtread_no{v:Value}{code:Int}(HS:Calls Tryz.prog 84 #[v] w fun e w'=>e=.returned (.int .i64 code)/\w'=w)(hc:(code != 0)=true)(y:Int):Calls Tryz.prog 76 #[v,.int .i64 y] w fun e w'=>e=.returned (.tuple #[.string ByteArray.empty,.int .i64 code])/\w'=w:=by
 have HS:=hid HS
 go_enter Tryz.func76,Tryz.ntmps76
 go_wp2_with fail
 refine Calls.mono HS.out ?_
 rintro e w2 ⟨rfl,hw2⟩
 rw[hw2]
 clear hw2
 go_wp2
 go_ret2
 exact⟨rfl,rfl⟩
theorem rtread_far{g:Nat}(h:Rt5 w g rb pv mv false){sure:Int}(hs:Rs5 w rb nb fr bl fv dv sure ov false)(hpv:pv=.slice pa pn pc)(y:Int)(HR:Calls Tryz.prog 38 #[.pointer (some ⟨rb,0,none⟩),.int .i64 y] w fun e w'=>e=.returned (.tuple #[.string ByteArray.empty,.int .i64 42])/\Below w.heap.size w w'):Calls Tryz.prog 76 #[.pointer (some ⟨g,0,none⟩),.int .i64 y] w fun e w'=>e=.returned (.tuple #[.string ByteArray.empty,.int .i64 42])/\Below w.heap.size w w':=by
 subst hpv
 have HS:=hid (rstate_any h hs)
 have e0:stC false false=0:=rfl
 rw[e0]at HS
 have HR:=hid HR
 have c0:=h.cell 0
 simp at c0
 have HC:Hid (∀w2,Below w.heap.size w w2->w2.cell? ⟨g,1,none⟩=some (.slice pa pn pc)):=fun w2 b=>by
  have:=(h.keep (b.block g h.lt)).cell 1
  simpa using this
 clear h hs e0
 go_enter Tryz.func76,Tryz.ntmps76
 go_wp2_with fail
 refine Calls.mono HS.out ?_
 rintro e w2 ⟨rfl,hw2⟩
 rw[hw2]
 clear hw2
 go_wp2_with fail
 refine Calls.mono HR.out ?_
 rintro e w3 ⟨rfl,b3⟩
 have c1:=HC.out w3 b3
 have B3:=hid b3
 clear b3 HC c0
 go_wp2_with fail
 go_loopw [7,9] (fun bv iv wr=>bv=.string ByteArray.empty/\iv=.int .i64 0/\wr=w3) (fun _ _ _=>0)
 case atStart=>exact⟨rfl,rfl,rfl⟩
 case round=>
  obtain⟨rfl,rfl,hwr⟩:=hrel
  rw[hwr]
  clear hwr
  by_cases h0:(0:Int)<(pn:Int)
  ·go_wp2
   go_ret2
   exact⟨rfl,B3.out⟩
  ·go_wp2
   go_ret2
   exact⟨rfl,B3.out⟩
theorem rtread_home{g:Nat}(h:Rt5 w g rb pv mv false){sure:Int}(hs:Rs5 w rb nb fr bl fv dv sure ov false){ps:List Pu}(hpv:pv=.slice pa ps.length pc)(hP:PutsL w pa ps)(hpl:ps.length<=1073741823)(y:Int)(S:ByteArray)(HR:Calls Tryz.prog 38 #[.pointer (some ⟨rb,0,none⟩),.int .i64 y] w fun e w'=>e=.returned (.tuple #[.string S,.int .i64 0])/\Below w.heap.size w w'):Calls Tryz.prog 76 #[.pointer (some ⟨g,0,none⟩),.int .i64 y] w fun e w'=>e=.returned (.tuple #[.string (layU y S ps),.int .i64 0])/\Below w.heap.size w w':=by
 subst hpv
 have HS:=hid (rstate_any h hs)
 have e0:stC false false=0:=rfl
 rw[e0]at HS
 have HR:=hid HR
 have c0:=h.cell 0
 simp at c0
 obtain⟨np,hnp⟩:∃np,np=ps.length:=⟨_,rfl⟩
 have HC:Hid (∀w2,Below w.heap.size w w2->w2.cell? ⟨g,1,none⟩=some (.slice pa np pc)/\PutsL w2 pa ps):=fun w2 b=>by
  have:=(h.keep (b.block g h.lt)).cell 1
  exact⟨by rw[hnp];simpa using this,hP.below b⟩
 rw[<- hnp]at hpl
 have HN:=hid hnp
 clear h hs e0 hP hnp
 go_enter Tryz.func76,Tryz.ntmps76
 go_wp2_with fail
 refine Calls.mono HS.out ?_
 rintro e w2 ⟨rfl,hw2⟩
 rw[hw2]
 clear hw2
 go_wp2_with fail
 refine Calls.mono HR.out ?_
 rintro e w3 ⟨rfl,b3⟩
 obtain⟨c1,hP3⟩:=HC.out w3 b3
 have HP:=hid hP3
 have B3:=hid b3
 clear b3 HC c0 hP3
 go_wp2_with fail
 go_loopw [7,9] (fun bv iv wr=>∃i:Nat,i<=np/\iv=.int .i64 (i:Int)/\bv=.string (layU y S (ps.take i))/\wr=w3) (fun _ iv _=>np-(intOf iv).toNat)
 case atStart=>exact⟨0,Nat.zero_le _,rfl,rfl,rfl⟩
 case round=>
  obtain⟨i,hin,rfl,rfl,hwr⟩:=hrel
  rw[hwr]
  clear hwr
  by_cases hi:i<np
  ·have hi':(i:Int)<(np:Int):=by omega
   obtain⟨q,hq⟩:∃q,ps[i]?=some q:=⟨_,List.getElem?_eq_getElem (by have:=HN.out;omega)⟩
   obtain⟨gp,rfl,hq1,hq2⟩:=HP.out i q hq
   have HT:Hid (layU y S (ps.take (i+1))=if q.1=y then q.2 else layU y S (ps.take i)):=by
    rw[List.take_add_one,hq]
    exact layU_snoc _ _ _ _
   clear hq
   by_cases he:q.1=y
   ·have hb:(q.1 == y)=true:=by simp[he]
    have hT:=HT.out
    rw[if_pos he]at hT
    have HT2:=hid hT
    clear hT HT he
    go_wp2_with fail
    go_roundw
    case rel=>exact⟨i+1,by omega,by simp,by rw[HT2.out],trivial⟩
    case measure=>simp[intOf];omega
   ·have hb:(q.1 == y)=false:=by simp[he]
    have hT:=HT.out
    rw[if_neg he]at hT
    have HT2:=hid hT
    clear hT HT he
    go_wp2_with fail
    go_roundw
    case rel=>exact⟨i+1,by omega,by simp,by rw[HT2.out],trivial⟩
    case measure=>simp[intOf];omega
  ·have hi':¬(i:Int)<(np:Int):=by omega
   have hie:ps.take i=ps:=List.take_of_length_le (by have:=HN.out;omega)
   rw[hie]
   clear hie
   go_wp2
   go_ret2
   exact⟨rfl,B3.out⟩
open Go.RowKit
theorem news1R(w:World)(u:Value)(t:TypeId):∀j y,[u][j]?=some y->(w.alloc (.cells #[u] t)).cell? ((⟨w.heap.size,0,none⟩:Addr).add j)=some y:=by
 intro j y hy
 exact World.news_of_block (w:=w.alloc (.cells #[u] t)) (B:=w.heap.size) (cs:=#[u]) (t:=t) (fr:=(0,0)) (alloc_new rfl _) j y (by simpa using hy)
theorem news2R(w:World)(u v:Value)(t:TypeId):∀j y,[u,v][j]?=some y->(w.alloc (.cells #[u,v] t)).cell? ((⟨w.heap.size,0,none⟩:Addr).add j)=some y:=by
 intro j y hy
 exact World.news_of_block (w:=w.alloc (.cells #[u,v] t)) (B:=w.heap.size) (cs:=#[u,v]) (t:=t) (fr:=(0,0)) (alloc_new rfl _) j y (by simpa using hy)
theorem info150:(Tryz.prog.info? 150).map (fun i=>(i.zero,i.size,i.bytes))=some (some (.agg #[.int .i64 0,.string ByteArray.empty]),2,24):=by kernel_rfl
theorem rmark_raw{g:Nat}(h:Rt5 w g rb (.slice pa pn pc) mv false){sure:Int}(hs:Rs5 w rb nb fr bl fv dv sure ov false)(hr:w.ownsRow 0 3 1 mv M xs)(hM:M<=1073741823) :
  Calls Tryz.prog 79 #[.pointer (some ⟨g,0,none⟩)] w fun e w'=>e=.returned (.tuple #[.int .i64 (M:Int),.int .i64 0])/\∃g' cap,Rt5 w' g rb (.slice pa pn pc) (.slice (some ⟨g',0,none⟩) (M+1) cap) false/\w'.ownsRow 0 3 1 (.slice (some ⟨g',0,none⟩) (M+1) cap) (M+1) (xs++[.int .i64 (pn:Int)])/\(mv.ownBlock=some g'\/w.heap.size<=g')/\But (fun k=>k=g\/mv.ownBlock=some k) w w':=by
 obtain⟨PO,hPO⟩:∃PO:Ending->World->Prop,PO=fun e w'=>e=.returned (.tuple #[.int .i64 (M:Int),.int .i64 0])/\∃g' cap,Rt5 w' g rb (.slice pa pn pc) (.slice (some ⟨g',0,none⟩) (M+1) cap) false/\w'.ownsRow 0 3 1 (.slice (some ⟨g',0,none⟩) (M+1) cap) (M+1) (xs++[.int .i64 (pn:Int)])/\(mv.ownBlock=some g'\/w.heap.size<=g')/\But (fun k=>k=g\/mv.ownBlock=some k) w w':=⟨_,rfl⟩
 rw[<- hPO]
 have HS:=hid (rstate_any h hs)
 have e0:stC false false=0:=rfl
 rw[e0]at HS
 clear e0 hs
 obtain⟨i3,hi3,hz3,hs3,hb3⟩:=info_parts info3
 have hxl:=h.lt
 have x1:=h.cell 1
 have x2:=h.cell 2
 simp at x1 x2
 obtain⟨wA,hwA⟩:∃wA,wA=w.alloc (.cells #[.int .i64 (pn:Int)] 3):=⟨_,rfl⟩
 have bA:Below w.heap.size w wA:=by rw[hwA];exact (Below.refl _ _).alloc (Nat.le_refl _) _
 have zA:wA.heap.size=w.heap.size+1:=by rw[hwA];simp
 have x1A:(w.alloc (.cells #[.int .i64 (pn:Int)] 3)).drew.cell? ⟨g,1,none⟩=some (.slice pa pn pc):=by rw[<- hwA];exact (bA.cell (p:=⟨g,1,none⟩) hxl).trans x1
 have x2A:(w.alloc (.cells #[.int .i64 (pn:Int)] 3)).drew.cell? ⟨g,2,none⟩=some mv:=by rw[<- hwA];exact (bA.cell (p:=⟨g,2,none⟩) hxl).trans x2
 have HRowA:Hid ((w.alloc (.cells #[.int .i64 (pn:Int)] 3)).drew.ownsRow 0 3 1 mv M xs):=by rw[<- hwA];exact owns_below hr bA.drew
 have HN:Hid (∀w6 g4 cap4,w6.ownsRow 0 3 1 (.slice (some ⟨g4,0,none⟩) (M+1) cap4) (M+1) (xs++[.int .i64 (pn:Int)])->(w.alloc (.cells #[.int .i64 (pn:Int)] 3)).drew.grownBy w6 mv.ownBlock->(mv.ownBlock=some g4\/g4=w.heap.size+1)->w6.cell? ⟨g,1,none⟩=some (.slice pa pn pc)/\w6.cell? ⟨g,2,none⟩=some mv/\w6.frozen? ⟨g,2,none⟩=false/\(w6.setCell ⟨g,2,none⟩ (.slice (some ⟨g4,0,none⟩) (M+1) cap4)).cell? ⟨g,1,none⟩=some (.slice pa pn pc)/\∃g' cap,(w6.setCell ⟨g,2,none⟩ (.slice (some ⟨g4,0,none⟩) (M+1) cap4)).cell? ⟨g,2,none⟩=some (.slice (some ⟨g',0,none⟩) (M+1) cap)/\PO (.returned (.tuple #[.int .i64 (M:Int),.int .i64 0])) (w6.setCell ⟨g,2,none⟩ (.slice (some ⟨g4,0,none⟩) (M+1) cap4))):=fun w6 g4 cap4 ho hg hl=>by
  rw[<- hwA]at hg
  have bg:But (fun k=>mv.ownBlock=some k) wA w6:=(But.refl _ wA).drew.of_grown hg (fun k e _=>e)
  have sg:=bg.size
  have hxn:¬mv.ownBlock=some g:=fun e=>by
   obtain⟨cur,hcur⟩:=rowKind hr e
   exact kind_ne hcur h (by decide) rfl
  have hx6:Rt5 w6 g rb (.slice pa pn pc) mv false:=h.keep ((bg.block g (by omega) hxn).trans (bA.block g hxl))
  have hs6:=hx6.set2 (.slice (some ⟨g4,0,none⟩) (M+1) cap4)
  have hg4x:g4≠g:=by
   rcases hl with e | e
   ·exact fun q=>hxn (q ▸ e)
   ·omega
  have bs:But (fun k=>k=g) w6 (w6.setCell ⟨g,2,none⟩ (.slice (some ⟨g4,0,none⟩) (M+1) cap4)):=(But.refl (fun k=>k=g) w6).setCell (p:=⟨g,2,none⟩) rfl _
  have c1:=hs6.cell 1
  have c2:=hs6.cell 2
  have d1:=hx6.cell 1
  have d2:=hx6.cell 2
  simp at c1 c2 d1 d2
  refine⟨d1,d2,hx6.frozen 2,c1,g4,cap4,c2,?_⟩
  rw[hPO]
  refine⟨rfl,g4,cap4,hs6,owns_keep ho (fun k e=>?_),hl.imp id (fun e=>by omega),?_⟩
  ·have:g4=k:=by simpa [Value.ownBlock] using e
   subst this
   exact bs.block g4 (World.ownsRow.lt ho g4 rfl).2 hg4x
  ·exact (((But.of_below bA (X:=fun k=>k=g\/mv.ownBlock=some k)).comp bg (fun _ _ q=>.inr q))).comp bs (fun _ _ q=>.inl q)
 clear hwA bA zA hPO h hr
 go_enter Tryz.func79,Tryz.ntmps79
 go_wp2_with fail
 refine Calls.mono HS.out ?_
 rintro e w9 ⟨rfl,hw9⟩
 rw[hw9]
 clear hw9 HS
 go_upto_region 4 with fail
 go_cut [2] (fun s2 wx=>∃g' cap,s2=.int .i64 0/\wx.cell? ⟨g,2,none⟩=some (.slice (some ⟨g',0,none⟩) (M+1) cap)/\PO (.returned (.tuple #[.int .i64 (M:Int),.int .i64 0])) wx)
 case first=>
  refine wp_region_noPanic ?_
  refine Gz (S:=fun w'=>w'.cell? ⟨g,1,none⟩=some (.slice pa pn pc)) x1 (fun hSS=>?_)
  refine Ti 0 rfl ?_
  refine Ti 1 rfl ?_
  refine Ti 2 rfl ?_
  refine Ti 3 rfl ?_
  try simp only[Act.put,zA,zB,zC]
  refine Ti 5 rfl ?_
  refine Ti 6 rfl ?_
  refine Ti 7 rfl ?_
  refine Ti 8 rfl ?_
  try simp only[Act.put,zA,zB,zC]
  refine Ti 9 rfl ?_
  try simp only[Act.put,zA,zB,zC]
  refine Rr 4 10 rfl rfl (fun K9 hK9=>?_) (fun K9 hK9=>?_)
  ·go_simp
   refine hK9.out _ _ hSS (fun hSS=>?_)
   try simp only[Act.put,zA,zB,zC]
   refine Ri 10 rfl (fun K9 hK9=>?_)
   go_simp
   refine hK9.out _ _ x1A (fun hSS=>?_)
   try simp only[Act.put,zA,zB,zC]
   refine Ri 11 rfl (fun K9 hK9=>?_)
   refine step_append_lies _ (by rfl) _ _ _ (by rfl) 0 3 i3 (.int .i64 0) 1 8 Tryz.underlying37 hi3 hz3 hs3 hb3 rfl (by decide) _ M _ (by rfl) (by exact HRowA.out) ⟨w.heap.size,0,none⟩ 1 1 [.int .i64 (pn:Int)] (by rfl) (by rfl) (by exact news1R w _ _) (by intro u hu;simp at hu;subst hu;rfl) (by decide) (by unfold maxLen;omega) (by omega) (by simp) (w.heap.size+1) (by simp) ?_
   intro g4 cap4 w6 ho4 hg4 hlie4 _
   obtain⟨y2,y3,yf,yS,hF⟩:=HN.out w6 g4 cap4 ho4 hg4 hlie4
   have HF:=hid hF
   clear ho4 hg4 hlie4 hF HN
   dsimp [Act.put]
   refine hK9.out _ _ y2 (fun hSS=>?_)
   try simp only[List.setIfInBounds_toArray,List.set_cons_zero,List.set_cons_succ]
   refine Ti 12 rfl ?_
   refine Ti 13 rfl ?_
   try simp only[Act.put,zA,zB,zC]
   refine Ri 14 rfl (fun K9 hK9=>?_)
   go_simp
   refine hK9.out _ _ yS (fun hSS=>?_)
   try simp only[Act.put,zA,zB,zC]
   refine Dn (NoPanic.normal ?_)
   clear hSS
   go_wp2_with fail
   go_meet
   obtain⟨g9,cap9,hF1⟩:=HF.out
   exact⟨g9,cap9,rfl,hF1⟩
  ·go_simp
   refine hK9.out _ _ x1A (fun hSS=>?_)
   try simp only[Act.put,zA,zB,zC]
   refine Ri 4 rfl (fun K9 hK9=>?_)
   go_simp
   refine hK9.out _ _ hSS (fun hSS=>?_)
   try simp only[Act.put,zA,zB,zC]
   refine Ri 11 rfl (fun K9 hK9=>?_)
   refine step_append_lies _ (by rfl) _ _ _ (by rfl) 0 3 i3 (.int .i64 0) 1 8 Tryz.underlying37 hi3 hz3 hs3 hb3 rfl (by decide) _ M _ (by rfl) (by exact HRowA.out) ⟨w.heap.size,0,none⟩ 1 1 [.int .i64 (pn:Int)] (by rfl) (by rfl) (by exact news1R w _ _) (by intro u hu;simp at hu;subst hu;rfl) (by decide) (by unfold maxLen;omega) (by omega) (by simp) (w.heap.size+1) (by simp) ?_
   intro g4 cap4 w6 ho4 hg4 hlie4 _
   obtain⟨y2,y3,yf,yS,hF⟩:=HN.out w6 g4 cap4 ho4 hg4 hlie4
   have HF:=hid hF
   clear ho4 hg4 hlie4 hF HN
   dsimp [Act.put]
   refine hK9.out _ _ y2 (fun hSS=>?_)
   try simp only[List.setIfInBounds_toArray,List.set_cons_zero,List.set_cons_succ]
   refine Ti 12 rfl ?_
   refine Ti 13 rfl ?_
   try simp only[Act.put,zA,zB,zC]
   refine Ri 14 rfl (fun K9 hK9=>?_)
   go_simp
   refine hK9.out _ _ yS (fun hSS=>?_)
   try simp only[Act.put,zA,zB,zC]
   refine Dn (NoPanic.normal ?_)
   clear hSS
   go_wp2_with fail
   go_meet
   obtain⟨g9,cap9,hF1⟩:=HF.out
   exact⟨g9,cap9,rfl,hF1⟩
 case rest=>
 rename World=>wq
 obtain⟨g',cap,rfl,k3,hF⟩:=hcut
 have FIN:=hid hF
 clear hF HN HRowA x1 x2 x1A x2A
 go_wp2_with fail
 exact FIN.out
end Go.Proofs.YthfojpcibnfmgaaGreat
