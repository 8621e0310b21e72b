import Derived.Test.YtlefjidbpjkhlaaGreatK20
import Derived.Test.YtlefjidbpjkhlaaGreatK16
import Derived.Laws.Rows
import Derived.Laws.ResultCell
import Derived.Deep.DeepCutAuto
import Derived.Test.YtlefjidbpjkhlaaGreatK18
import Derived.Test.YtlefjidbpjkhlaaGreatK19
import Derived.Test.YtlefjidbpjkhlaaGreatK11
import Derived.Lib.SliceRun
import Derived.Deep.RegionLaw
set_option maxRecDepth 100000
set_option maxHeartbeats 16000000
namespace Go.Proofs.YtlefjidbpjkhlaaGreat
variable {w w':World}
variable {K b bl c e j k m n p r t x:Nat}
variable {ys:List Int}
variable {P:Program}
variable {fn:Func}
variable {ty:TypeId}
variable {Y Z Z' Zw:Nat->Prop}
variable {d:Pd}
variable {s:Js}
variable {fv mv sv tv v wv:Value}
variable {D:DataW (Nat×Nat×Int)}
variable {L:Nat->Option (List Int)}
variable {xs:List Value}
variable {ss:List Sp}
variable {ms:List Mr}
variable {H:Type}
open Go.RowKit Go.Shelf
def isPg (r n:Nat) (zs:List Int):Bool:=decide (zs.take 21=hdgZ r n)
theorem own_cap{G cap:Nat}{zs:List Int}(hO:Own w G n cap zs):n<=cap:=by
 rcases hO.2 with ⟨q,_⟩ | ⟨g,c,cur,q,_,_,q2,_⟩
 ·cases q
 ·injection q with _ _ q;omega
theorem prefix_any{G cap g c2:Nat}{zs:List Int}(hO:Own w G 512 cap zs)(hP:Own w g 21 c2 ys)(b1:Pl.isB zs)(b2:Pl.isB ys):Calls Tryz.prog 180 #[.slice (some ⟨G,0,none⟩) 512 cap,.slice (some ⟨g,0,none⟩) 21 c2] w fun e w'=>e=.returned (.bool (decide (zs.take 21=ys)))/\w'=w:=by
 have hcap:=own_cap hO
 have hl:(zs.take 21).length=21:=by rw[List.length_take,hO.len];rfl
 have HE:Hid (Calls Tryz.prog 169 #[.slice (some ⟨G,0,none⟩) 21 cap,.slice (some ⟨g,0,none⟩) 21 c2] w fun e w'=>e=.returned (.bool (decide (zs.take 21=ys)))/\w'=w):=by
  refine Calls.mono (Any.bytes_Equal_all equalA (some ⟨G,0,none⟩) (some ⟨g,0,none⟩) 21 cap 21 c2 (zs.take 21) ys w hl hP.len (fun _=>⟨G,0,rfl,fun i hi=>?_⟩) (fun _=>⟨g,0,rfl,fun i hi=>by rw[Nat.zero_add];exact hP.cell i hi⟩)) ?_
  ·rw[Nat.zero_add,hO.cell i (by have:=hO.len;omega)]
   rw[List.getD_eq_getElem?_getD,List.getD_eq_getElem?_getD,List.getElem?_take_of_lt (by omega)]
  rintro e w' ⟨rfl,rfl⟩
  refine⟨?_,rfl⟩
  congr 2
  by_cases q:zs.take 21=ys
  ·simp[q]
  ·have:¬Lib.bytesOf (zs.take 21)=Lib.bytesOf ys:=fun r=>q (bytes_inj (Pl.isB_take b1 _) b2 r)
   simp[q,this]
 have hc21:(21:Int)<=(cap:Int):=by omega
 generalize decide (zs.take 21=ys)=bb at *
 clear hO hP b1 b2 hl hcap
 go_enter Tryz.func180,Tryz.ntmps180
 go_wp2_with fail
 refine Calls.mono HE.out ?_
 rintro e w1 ⟨rfl,rfl⟩
 cases bb <;> (go_wp2;go_ret;exact⟨rfl,rfl⟩)
theorem isPage_any{G cap:Nat}{zs:List Int}(f:Int)(h1:r<=262144)(h2:n<=1024)(hO:Own w G 512 cap zs)(hb:Pl.isB zs):Calls Tryz.prog 140 #[.agg #[.int .i64 f,.int .i64 (r:Int)],.slice (some ⟨G,0,none⟩) 512 cap,.int .i64 (n:Int)] w fun e w'=>e=.returned (.bool (isPg r n zs))/\Below w.heap.size w w':=by
 obtain⟨w0,hw0⟩:∃w0,w0=w.alloc (.cells #[.int .i64 f,.int .i64 (r:Int)] 92):=⟨_,rfl⟩
 have z0:w0.heap.size=w.heap.size+1:=by rw[hw0];simp
 have b0:Below w.heap.size w w0:=by rw[hw0];exact (Below.refl _ _).alloc (Nat.le_refl _) _
 have k0:w0.cell? ⟨w.heap.size,0,none⟩=some (.int .i64 f):=by rw[hw0];exact cell_new rfl 0 _ rfl
 have k1:w0.cell? ⟨w.heap.size,1,none⟩=some (.int .i64 (r:Int)):=by rw[hw0];exact cell_new rfl 1 _ rfl
 have HH:Hid (Calls Tryz.prog 141 #[.agg #[.int .i64 f,.int .i64 (r:Int)],.int .i64 (n:Int)] w0 fun e w2=>∃g c2,e=.returned (.slice (some ⟨g,0,none⟩) 21 c2)/\Calls Tryz.prog 180 #[.slice (some ⟨G,0,none⟩) 512 cap,.slice (some ⟨g,0,none⟩) 21 c2] w2 fun e w'=>e=.returned (.bool (isPg r n zs))/\Below w.heap.size w w'):=by
  refine Calls.mono (heading_any f h1 h2 w0) ?_
  rintro e w2 ⟨g,c2,rfl,hg,hH,b2⟩
  refine⟨g,c2,rfl,Calls.mono (prefix_any (hO.keep ((b2.block G (by have:=hO.lt;omega)).trans (b0.block G hO.lt))) hH hb (isB_hdgZ r n)) ?_⟩
  rintro e w3 ⟨rfl,rfl⟩
  exact⟨rfl,b0.trans (b2.mono (by omega))⟩
 have HW:=hid hw0
 generalize isPg r n zs=bb at *
 clear hw0 b0 z0 hO hb h1 h2
 go_enter Tryz.func140,Tryz.ntmps140
 go_wp2_with fail
 (try rw[<- HW.out])
 (try go_wp2_with fail)
 refine Calls.mono HH.out ?_
 rintro e w2 ⟨g,c2,rfl,h⟩
 have H:=hid h
 clear h HH k0 k1
 go_wp2_with fail
 refine Calls.mono H.out ?_
 rintro e w3 ⟨rfl,b⟩
 have B:=hid b
 clear b H
 go_wp2
 go_ret
 exact⟨rfl,B.out⟩
open Go.RowKit
theorem results_row_tmp {p u:Tmp} (h:fn.results=#[.cell p ty,.tmp u]) (tmps:Array Value) (w:World) (g:Nat) (t:TypeId) (cs:Array Value) (fr:Nat×Nat) (d:TypeDesc) (x:Value)
  (hp:tmps.getD p undef=.pointer (some ⟨g,0,none⟩)) (hx:tmps.getD u undef=x) (hg:w.heap[g]?=some (.cells cs t fr))
  (hu:P.underlying ty=some d) (hd:(match d with | .struct _ | .array _ _=>true | _=>false)=true) (hi:(P.info? ty).map (·.size)=some cs.size) :
  (results fn tmps).run P w=.ok (.tuple #[.agg cs,x]) w:=by
 rw[results_cell_tmp h,hp,hx]
 simp[asAddr,run_loadVar_row w g t ty cs fr d hg hu hd hi]
open Go.RowKit Go.Deep
open Go.RowKit Go.Deep
theorem neq_tnil(w:World)(a:Addr):(binOp .neq 30 (.pointer none) (.pointer (some a))).run Tryz.prog w=.ok (.bool true) w:=by
 have h:∀d:Nat,(Op.equalIn (d+1) 30 (.pointer none) (.pointer (some a))).run Tryz.prog w=.ok false w:=fun d=>by
  simp[Op.equalIn,run_underlying Tryz.underlying30]
 simp only[binOp]
 simp[Op.equal,Op.maxDepth,h 9999]
theorem task_nil(w:World):Calls Tryz.prog 40 #[.pointer none] w fun e w'=>e=.returned (.int .i64 1)/\Below w.heap.size w w':=by
 have B:Hid (Below w.heap.size w w):=Below.refl _ _
 go_enter Tryz.func40,Tryz.ntmps40
 go_wp2
 go_ret
 exact⟨rfl,B.out⟩
theorem task_off{room nb fr:Nat}(h:Jq Z w j c p room nb K fr bl d s)(hoff:d.off=true){st:Nat}(ht:Txb w t j fv st wv):Calls Tryz.prog 40 #[.pointer (some ⟨t,0,none⟩)] w fun e w'=>e=.returned (.int .i64 24)/\Below w.heap.size w w':=by
 have H:=hid (power_any h (ht.cell 0))
 rw[hoff]at H
 clear h ht
 go_enter Tryz.func40,Tryz.ntmps40
 go_wp2_with fail
 refine Calls.mono H.out ?_
 rintro e w1 ⟨rfl,b1⟩
 have B1:=hid b1
 clear b1 H
 go_wp2
 go_ret
 exact⟨rfl,B1.out⟩
theorem task_over0{room nb fr:Nat}(h:Jq Z w j c p room nb K fr bl d s)(hon:d.off=false){st:Nat}(ht:Txb w t j fv st wv)(hs:Stb w st j (.pointer none)):Calls Tryz.prog 40 #[.pointer (some ⟨t,0,none⟩)] w fun e w'=>e=.returned (.int .i64 51)/\Below w.heap.size w w':=by
 have H:=hid (power_any h (ht.cell 0))
 rw[hon]at H
 have HC:Hid (∀w',Below w.heap.size w w'->w'.cell? ⟨t,2,none⟩=some (.pointer (some ⟨st,0,none⟩))/\w'.cell? ⟨st,2,none⟩=some (.pointer none)):=fun w' b=>⟨(b.cell (p:=⟨t,2,none⟩) ht.lt).trans (ht.cell 2),(b.cell (p:=⟨st,2,none⟩) hs.lt).trans (hs.cell 2)⟩
 clear h ht hs
 go_enter Tryz.func40,Tryz.ntmps40
 go_wp2_with fail
 refine Calls.mono H.out ?_
 rintro e w1 ⟨rfl,b1⟩
 obtain⟨c2,c3⟩:=HC.out w1 b1
 have hq:=neq_tnil w1 ⟨t,0,none⟩
 have B1:=hid b1
 clear b1 H HC
 go_wp2
 go_ret
 exact⟨rfl,B1.out⟩
theorem task_over1{room nb fr:Nat}(h:Jq Z w j c p room nb K fr bl d s)(hon:d.off=false){st t2:Nat}(ht:Txb w t j fv st wv)(hs:Stb w st j (.pointer (some ⟨t2,0,none⟩))){fv2 wv2:Value}(ht2:Txb w t2 j fv2 st wv2)(hne:t2≠t):Calls Tryz.prog 40 #[.pointer (some ⟨t,0,none⟩)] w fun e w'=>e=.returned (.int .i64 51)/\Below w.heap.size w w':=by
 have H:=hid (power_any h (ht.cell 0))
 rw[hon]at H
 have HC:Hid (∀w',Below w.heap.size w w'->w'.cell? ⟨t,2,none⟩=some (.pointer (some ⟨st,0,none⟩))/\w'.cell? ⟨st,2,none⟩=some (.pointer (some ⟨t2,0,none⟩))/\(binOp .neq 30 (.pointer (some ⟨t2,0,none⟩)) (.pointer (some ⟨t,0,none⟩))).run Tryz.prog w'=.ok (.bool true) w'):=fun w' b=>⟨(b.cell (p:=⟨t,2,none⟩) ht.lt).trans (ht.cell 2),(b.cell (p:=⟨st,2,none⟩) hs.lt).trans (hs.cell 2),neq_tother hne (ht2.keep (b.block t2 ht2.lt)) (ht.keep (b.block t ht.lt))⟩
 clear h ht hs ht2
 go_enter Tryz.func40,Tryz.ntmps40
 go_wp2_with fail
 refine Calls.mono H.out ?_
 rintro e w1 ⟨rfl,b1⟩
 obtain⟨c2,c3,hq⟩:=HC.out w1 b1
 have B1:=hid b1
 clear b1 H HC
 go_wp2
 go_ret
 exact⟨rfl,B1.out⟩
theorem sbegin_no{code:Int}(HS:Calls Tryz.prog 37 #[v] w fun e w'=>e=.returned (.int .i64 code)/\Below w.heap.size w w')(hc:(code != 0)=true):Calls Tryz.prog 9 #[v] w fun e w'=>e=.returned (.tuple #[.pointer none,.int .i64 code])/\Below w.heap.size w w':=by
 have HS:=hid HS
 go_enter Tryz.func9,Tryz.ntmps9
 go_wp2_with fail
 refine Calls.mono HS.out ?_
 rintro e w1 ⟨rfl,b1⟩
 have B1:=hid b1
 clear b1 HS
 go_wp2
 go_ret2
 exact⟨rfl,B1.out⟩
theorem twrite_no{code:Int}(HS:Calls Tryz.prog 40 #[v] w fun e w'=>e=.returned (.int .i64 code)/\Below w.heap.size w w')(hc:(code != 0)=true)(y:Int)(dv:Value):Calls Tryz.prog 52 #[v,.int .i64 y,dv] w fun e w'=>e=.returned (.int .i64 code)/\Below w.heap.size w w':=by
 have HS:=hid HS
 go_enter Tryz.func52,Tryz.ntmps52
 go_wp2_with fail
 refine Calls.mono HS.out ?_
 rintro e w1 ⟨rfl,b1⟩
 have B1:=hid b1
 clear b1 HS
 go_wp2
 go_ret
 exact⟨rfl,B1.out⟩
theorem tabort_no{code:Int}(HS:Calls Tryz.prog 40 #[v] w fun e w'=>e=.returned (.int .i64 code)/\Below w.heap.size w w')(hc:(code != 0)=true):Calls Tryz.prog 14 #[v] w fun e w'=>e=.returned (.int .i64 code)/\Below w.heap.size w w':=by
 have HS:=hid HS
 go_enter Tryz.func14,Tryz.ntmps14
 go_wp2_with fail
 refine Calls.mono HS.out ?_
 rintro e w1 ⟨rfl,b1⟩
 have B1:=hid b1
 clear b1 HS
 go_wp2
 go_ret
 exact⟨rfl,B1.out⟩
theorem sbegin_open{room nb fr:Nat}(h:Jq Z w j c p room nb K fr bl d s)(hon:d.off=false){st:Nat}{a:Addr}(hs:Stb w st j (.pointer (some a))):Calls Tryz.prog 9 #[.pointer (some ⟨st,0,none⟩)] w fun e w'=>e=.returned (.tuple #[.pointer none,.int .i64 50])/\Below w.heap.size w w':=by
 have H:=hid (sask_any h hs)
 rw[hon]at H
 have HC:Hid (∀w',Below w.heap.size w w'->w'.cell? ⟨st,2,none⟩=some (.pointer (some a))):=fun w' b=>(b.cell (p:=⟨st,2,none⟩) hs.lt).trans (hs.cell 2)
 clear h hs
 go_enter Tryz.func9,Tryz.ntmps9
 go_wp2_with fail
 refine Calls.mono H.out ?_
 rintro e w1 ⟨rfl,b1⟩
 have c3:=HC.out w1 b1
 have B1:=hid b1
 clear b1 H HC
 go_wp2
 go_ret2
 exact⟨rfl,B1.out⟩
open Go.RowKit Go.Deep
theorem Wq.lows{nb fr:Nat}{a:Nat->Option (Nat×Nat×Int)}(hW:Wq Zw w x j m n nb fr bl D a sv mv L)(b:Below w.heap.size w w'):Wq Zw w' x j m n nb fr bl D a sv mv L:=hW.keep (fun k _ hk=>b.block k hk)
theorem look_wfar{room nb fr:Nat}(h:Jq Z w j c p room nb K fr bl d s){a:Nat->Option (Nat×Nat×Int)}(hW:Wq Zw w x j m n nb fr bl D a sv mv L)(h1:fr+bl<=nb)(hon:d.off=false)(y:Int)(hy1:-9223372036854775808<=y)(hy2:y<=9223372036854775807)(hh:homeC nb fr bl y≠0)(hc:w.cell? ⟨b,1,none⟩=some (.iface 83 (.pointer (some ⟨x,0,none⟩)))):Calls Tryz.prog 62 #[.pointer (some ⟨b,0,none⟩),.int .i64 y] w fun e w'=>e=.returned (.tuple #[.slice none 0 0,.int .i64 42])/\Below w.heap.size w w':=by
 have H:=hid (wread_far h hW h1 hon y hy1 hy2 hh)
 clear h hW hh
 go_enter Tryz.func62,Tryz.ntmps62
 go_wp2_with (rw[readW])
 refine Calls.mono H.out ?_
 rintro e w1 ⟨rfl,b1⟩
 have B1:=hid b1
 clear b1 H
 go_wp2
 go_ret2
 exact⟨rfl,B1.out⟩
theorem twrite_far{room nb fr:Nat}(h:Jq Z w j c p room nb K fr bl d s){a:Nat->Option (Nat×Nat×Int)}(hW:Wq Zw w x j m n nb fr bl D a sv mv L)(h1:fr+bl<=nb)(hon:d.off=false)(y:Int)(hy1:-9223372036854775808<=y)(hy2:y<=9223372036854775807)(hh:homeC nb fr bl y≠0){st:Nat}(ht:Txb w t j (.iface 83 (.pointer (some ⟨x,0,none⟩))) st (.pointer (some ⟨x,0,none⟩)))(hs:Stb w st j (.pointer (some ⟨t,0,none⟩)))(dv:Value):Calls Tryz.prog 52 #[.pointer (some ⟨t,0,none⟩),.int .i64 y,dv] w fun e w'=>e=.returned (.int .i64 42)/\Below w.heap.size w w':=by
 have HA:=hid (task_open h hon ht hs)
 have HL:Hid (∀w1,Below w.heap.size w w1->Calls Tryz.prog 62 #[.pointer (some ⟨t,0,none⟩),.int .i64 y] w1 fun e w'=>e=.returned (.tuple #[.slice none 0 0,.int .i64 42])/\Below w.heap.size w w'):=fun w1 b1=>by
  refine Calls.mono (look_wfar (h.below b1) (hW.lows b1) h1 hon y hy1 hy2 hh (b:=t) ((b1.cell (p:=⟨t,1,none⟩) ht.lt).trans (ht.cell 1))) ?_
  rintro e w' ⟨q1,q2⟩
  exact⟨q1,b1.trans (q2.mono b1.size)⟩
 clear h hs hh ht hW
 go_enter Tryz.func52,Tryz.ntmps52
 go_wp2_with fail
 refine Calls.mono HA.out ?_
 rintro e w1 ⟨rfl,b1⟩
 have HL1:=hid (HL.out w1 b1)
 clear b1 HA HL
 go_wp2_with fail
 refine Calls.mono HL1.out ?_
 rintro e w3 ⟨rfl,q⟩
 have FIN:=hid q
 clear q HL1
 go_wp2
 go_ret
 exact⟨rfl,FIN.out⟩
theorem twrite_len{room nb fr:Nat}(h:Jq Z w j c p room nb K fr bl d s){a:Nat->Option (Nat×Nat×Int)}(hW:Wq Zw w x j m n nb fr bl D a sv mv L)(h1:fr+bl<=nb)(hon:d.off=false)(hl:d.puts.length<=1073741824)(hK:K<4611686018427387904)(hnb:nb<=524288)(y:Nat)(hy:y<nb)(hh:homeC nb fr bl (y:Int)=0){st:Nat}(ht:Txb w t j (.iface 83 (.pointer (some ⟨x,0,none⟩))) st (.pointer (some ⟨x,0,none⟩)))(hs:Stb w st j (.pointer (some ⟨t,0,none⟩)))(xa:Option Addr)(xn xc:Nat)(hx:xn≠512):Calls Tryz.prog 52 #[.pointer (some ⟨t,0,none⟩),.int .i64 (y:Int),.slice xa xn xc] w fun e w'=>e=.returned (.int .i64 43)/\(∃Z',Jq Z' w' j c p room nb (K+1) fr bl d s/\Gr Z Z' w)/\But Z w w':=by
 have HA:=hid (task_open h hon ht hs)
 have HL:Hid (∀w1,Below w.heap.size w w1->Calls Tryz.prog 62 #[.pointer (some ⟨t,0,none⟩),.int .i64 (y:Int)] w1 (RdH (fun k=>Z k/\k<w.heap.size) w1 j c p room nb K fr bl d s ((L y).getD (jread d s y)))):=fun w1 b1=>look_w (h.cut.below b1) (hW.lows b1) h1 hon hl hK hnb y hy hh ((b1.cell (p:=⟨t,1,none⟩) ht.lt).trans (ht.cell 1))
 have HP:Hid (∀w1 e w',Below w.heap.size w w1->RdH (fun k=>Z k/\k<w.heap.size) w1 j c p room nb K fr bl d s ((L y).getD (jread d s y)) e w'->(∃Z',Jq Z' w' j c p room nb (K+1) fr bl d s/\Gr Z Z' w)/\But Z w w'):=fun w1 e w' b q=>by
  obtain⟨g,cp,_,_,_,_,⟨Z',q5,q6,_⟩,q8⟩:=q.low b
  exact⟨⟨Z',q5,q6⟩,q8⟩
 have hq:((xn:Int) != 512)=true:=by simp;omega
 clear h hs ht hW hx
 go_enter Tryz.func52,Tryz.ntmps52
 go_wp2_with fail
 refine Calls.mono HA.out ?_
 rintro e w1 ⟨rfl,b1⟩
 have HL1:=hid (HL.out w1 b1)
 have HP1:=hid (fun e w'=>HP.out w1 e w' b1)
 clear b1 HA HL HP
 go_wp2_with fail
 refine Calls.mono HL1.out ?_
 rintro e w3 q
 obtain⟨g3,cp3,rfl,_⟩:=id q
 have FIN:=hid (HP1.out _ w3 q)
 clear q HL1 HP1
 go_wp2
 go_ret
 exact⟨rfl,FIN.out⟩
theorem info83:(Tryz.prog.info? 82).map (fun i=>i.size)=some 3:=by kernel_rfl
theorem neq_ssame(w:World)(a:Addr):(binOp .neq 29 (.pointer (some a)) (.pointer (some a))).run Tryz.prog w=.ok (.bool false) w:=by
 obtain⟨j,hj,_⟩:=Option.map_eq_some_iff.1 info83
 have h:∀d:Nat,(Op.equalIn (d+1) 29 (.pointer (some a)) (.pointer (some a))).run Tryz.prog w=.ok true w:=fun d=>by
  simp[Op.equalIn,run_underlying Tryz.underlying29,sizeOf,typeInfo,hj,run_sameAddr_same]
 simp only[binOp]
 simp[Op.equal,Op.maxDepth,h 9999]
theorem sowns_nil(w:World)(a:Addr):Calls Tryz.prog 93 #[.pointer (some a),.pointer none] w fun e w'=>e=.returned (.int .i64 1)/\Below w.heap.size w w':=by
 have B:Hid (Below w.heap.size w w):=Below.refl _ _
 go_enter Tryz.func93,Tryz.ntmps93
 go_wp2
 go_ret
 exact⟨rfl,B.out⟩
theorem sowns_off{room nb fr:Nat}(h:Jq Z w j c p room nb K fr bl d s)(hoff:d.off=true){st:Nat}(hs:Stb w st j tv)(a:Addr):Calls Tryz.prog 93 #[.pointer (some ⟨st,0,none⟩),.pointer (some a)] w fun e w'=>e=.returned (.int .i64 24)/\Below w.heap.size w w':=by
 have HA:=hid (sask_any h hs)
 rw[hoff]at HA
 clear h hs
 go_enter Tryz.func93,Tryz.ntmps93
 go_wp2_with fail
 refine Calls.mono HA.out ?_
 rintro e w1 ⟨rfl,b1⟩
 have B1:=hid b1
 clear b1 HA
 go_wp2
 go_ret
 exact⟨rfl,B1.out⟩
theorem sowns_own{room nb fr:Nat}(h:Jq Z w j c p room nb K fr bl d s)(hon:d.off=false){st:Nat}(hs:Stb w st j tv)(ht:Txb w t j fv st wv){code:Int}(HT:∀w',Below w.heap.size w w'->Calls Tryz.prog 40 #[.pointer (some ⟨t,0,none⟩)] w' fun e w2=>e=.returned (.int .i64 code)/\Below w'.heap.size w' w2):Calls Tryz.prog 93 #[.pointer (some ⟨st,0,none⟩),.pointer (some ⟨t,0,none⟩)] w fun e w'=>e=.returned (.int .i64 code)/\Below w.heap.size w w':=by
 have HA:=hid (sask_any h hs)
 rw[hon]at HA
 have HC:Hid (∀w',Below w.heap.size w w'->w'.cell? ⟨t,2,none⟩=some (.pointer (some ⟨st,0,none⟩))):=fun w' b=>(b.cell (p:=⟨t,2,none⟩) ht.lt).trans (ht.cell 2)
 have HT:=hid HT
 clear h hs ht
 go_enter Tryz.func93,Tryz.ntmps93
 go_wp2_with fail
 refine Calls.mono HA.out ?_
 rintro e w1 ⟨rfl,b1⟩
 have c2:=HC.out w1 b1
 have hq:=neq_ssame w1 ⟨st,0,none⟩
 have HT1:=hid (HT.out w1 b1)
 have B1:=hid b1
 clear b1 HA HC HT
 go_wp2_with fail
 refine Calls.mono HT1.out ?_
 rintro e w2 ⟨rfl,b2⟩
 have B2:=hid (B1.out.trans (b2.mono B1.out.size))
 clear b2 HT1 B1
 go_wp2
 go_ret
 exact⟨rfl,B2.out⟩
open Go.RowKit Go.Deep
open Go.RowKit Go.Deep Go.Shelf
attribute [local go_sem] Oper.semAt_some
open Go.RowKit Go.Deep
def Lies (a:Nat->Option Wr) (ms:List Mr) (y:Nat) (r:Wr):Prop:=a y=some r\/∃(i p:Nat) (b:Nat->Option Wr),ms[i]?=some (p,b)/\b y=some r
def LofA (a:Nat->Option Wr) (val:Nat->List Int) (y:Nat):Option (List Int):=(a y).map (fun r=>val r.1)
structure Wm (Z:Nat->Prop) (w:World) (x j m n nb fr bl:Nat) (a:Nat->Option Wr) (sv mv:Value) (ss:List Sp) (ms:List Mr) (val:Nat->List Int):Prop where
 blk:Xb w x j m sv mv
 mp:∃D,w.ownsMap Tryz.prog 3 wrElem m n D/\AMx nb D a
 st:w.ownsRow 0 253 1 sv ss.length (ss.map stepV)
 mr:w.ownsRow 0 3 1 mv ms.length (ms.map (fun r=>Value.int .i64 ((r.1:Nat):Int)))
 dat:∀y r,Lies a ms y r->Own w r.1 512 r.2.1 (val r.1)/\Pl.isB (val r.1)/\(y<nb/\homeC nb fr bl (y:Int)=0)/\Z r.1
 sn:∀s∈ss,s.1<nb
 mks:Mk a ss ms
 zx:Z x
 zm:Z m
 zs:∀k,sv.ownBlock=some k->Z k
 zk:∀k,mv.ownBlock=some k->Z k
theorem own_cur5{g cap:Nat}{zs:List Int}(h:Own w g n cap zs):∃cur,w.heap[g]?=some (.cells cur 5 (0,0)):=by
 rcases h.2 with ⟨h1,_⟩ | ⟨g',cap',cur,hv,_,h2,_⟩
 ·cases h1
 ·cases hv
  exact⟨cur,h2⟩
theorem row_cur{base:Nat}(h:w.ownsRow base e 1 v n xs)(hk:v.ownBlock=some k):∃cur,w.heap[k]?=some (.cells cur e (0,0)):=by
 rcases h.2 with ⟨rfl,_⟩ | ⟨g,cap,cur,rfl,_,hg,_⟩
 ·simp[Value.ownBlock]at hk
 ·have:g=k:=by simpa [Value.ownBlock] using hk
  subst this
  exact⟨cur,hg⟩
theorem cells_ne{g e':Nat}{c c':Array Value}(h:w.heap[g]?=some (.cells c e (0,0)))(h':w.heap[k]?=some (.cells c' e' (0,0)))(he:e≠e'):g≠k:=fun q=>by
 subst q
 rw[h]at h'
 injection h' with h'
 injection h' with _ h'
 exact he h'
theorem own_ne_x{g cap:Nat}{zs:List Int}(h:Own w g n cap zs)(hx:Xb w x j m sv mv):g≠x:=by
 obtain⟨cur,h⟩:=own_cur5 h
 exact cells_ne h hx (by decide)
theorem own_ne_row{g cap base nn:Nat}{zs:List Int}(h:Own w g n cap zs)(hr:w.ownsRow base e 1 v nn xs)(he:5≠e)(hk:v.ownBlock=some k):g≠k:=by
 obtain⟨cur,h⟩:=own_cur5 h
 obtain⟨cur',h'⟩:=row_cur hr hk
 exact cells_ne h h' he
theorem own_ne_map{g cap n':Nat}{zs:List Int}{D:DataW Wr}(h:Own w g n cap zs)(hm:w.ownsMap Tryz.prog 3 wrElem m n' D):g≠m:=fun q=>by
 subst q
 obtain⟨cur,h⟩:=own_cur5 h
 obtain⟨es,ck,h1,_⟩:=hm
 rw[h]at h1
 cases h1
theorem Wm.lt{nb fr:Nat}{a:Nat->Option Wr}{val:Nat->List Int}(h:Wm Z w x j m n nb fr bl a sv mv ss ms val):x<w.heap.size/\m<w.heap.size/\(∀k,sv.ownBlock=some k->k<w.heap.size)/\(∀k,mv.ownBlock=some k->k<w.heap.size):=by
 obtain⟨D,h1,_⟩:=h.mp
 exact⟨h.blk.lt,h1.lt,fun k e=>(World.ownsRow.lt h.st k e).2,fun k e=>(World.ownsRow.lt h.mr k e).2⟩
theorem Wm.keepZ{nb fr:Nat}{a:Nat->Option Wr}{val:Nat->List Int}(h:Wm Z w x j m n nb fr bl a sv mv ss ms val)(hk:∀k,Z k->k<w.heap.size->w'.heap[k]?=w.heap[k]?)(hz:∀k,Z k->k<w.heap.size->Z' k):Wm Z' w' x j m n nb fr bl a sv mv ss ms val:=by
 obtain⟨l1,l2,l3,l4⟩:=h.lt
 obtain⟨D,h1,h2⟩:=h.mp
 exact { blk:=h.blk.keep (hk x h.zx l1),mp:=⟨D,mapW_keep h1 (hk m h.zm l2),h2⟩,st:=owns_keep h.st (fun k e=>hk k (h.zs k e) (l3 k e)),mr:=owns_keep h.mr (fun k e=>hk k (h.zk k e) (l4 k e)),dat:=fun y r q=>by { obtain⟨q1,q2,q3,q4⟩:=h.dat y r q;exact⟨q1.keep (hk _ q4 q1.lt),q2,q3,hz _ q4 q1.lt⟩ },sn:=h.sn,mks:=h.mks,zx:=hz x h.zx l1,zm:=hz m h.zm l2,zs:=fun k e=>hz k (h.zs k e) (l3 k e),zk:=fun k e=>hz k (h.zk k e) (l4 k e) }
theorem Wm.but{nb fr:Nat}{a:Nat->Option Wr}{val:Nat->List Int}(h:Wm Z w x j m n nb fr bl a sv mv ss ms val)(hb:But Y w w')(hy:∀k,k<w.heap.size->Z k->¬Y k):Wm Z w' x j m n nb fr bl a sv mv ss ms val:=h.keepZ (fun k q hk=>hb.block k hk (hy k hk q)) (fun _ q _=>q)
theorem Wm.cut{nb fr:Nat}{a:Nat->Option Wr}{val:Nat->List Int}(h:Wm Z w x j m n nb fr bl a sv mv ss ms val):Wm (fun k=>Z k/\k<w.heap.size) w x j m n nb fr bl a sv mv ss ms val:=h.keepZ (fun _ _ _=>rfl) (fun _ q hk=>⟨q,hk⟩)
theorem Wm.wq{nb fr:Nat}{a:Nat->Option Wr}{val:Nat->List Int}(h:Wm Z w x j m n nb fr bl a sv mv ss ms val):∃D,Wq Z w x j m n nb fr bl D a sv mv (LofA a val):=by
 obtain⟨D,h1,h2⟩:=h.mp
 refine⟨D,⟨h.blk,h1,h2,fun y g cp k e=>?_,fun y e=>by simp[LofA,e],h.zx,h.zm⟩⟩
 obtain⟨q1,q2,q3,q4⟩:=h.dat y (g,cp,k) (.inl e)
 exact⟨val g,by simp[LofA,e],q1,q2,q3,q4⟩
theorem Wm.lay{nb fr:Nat}{a:Nat->Option Wr}{val:Nat->List Int}(h:Wm Z w x j m n nb fr bl a sv mv ss ms val)(hn:n<=1073741823)(hns:ss.length<=1073741823)(y:Nat)(hy:y<nb)(hh:homeC nb fr bl (y:Int)=0)(hnb:nb<=524288)(ad:Addr)(cd:Nat)(zs:List Int)(hR:Rd w.heap.size w (some ad) 512 zs) :
  Calls Tryz.prog 95 #[.pointer (some ⟨x,0,none⟩),.int .i64 (y:Int),.slice (some ad) 512 cd] w fun e w'=>e=.returned (.tuple #[])/\∃a' sv' ss' val' Z',Wm Z' w' x j m (n+1) nb fr bl a' sv' mv ss' ms val'/\LofA a' val'=putL (LofA a val) y zs/\(∀(i p:Nat) (b:Nat->Option Wr),ms[i]?=some (p,b)->LofA b val'=LofA b val)/\ss'.length<=ss.length+1/\(∀k,Z' k->k<w'.heap.size)/\Gr Z Z' w/\But Z w w':=by
 obtain⟨l1,l2,l3,l4⟩:=h.lt
 obtain⟨D,hm,hA⟩:=h.mp
 obtain⟨ma,mc,hmv,_⟩:=owns_slice h.mr
 have hx:=h.blk
 rw[hmv]at hx
 obtain⟨ba,bn,bc,mk,ok,step,ss',hhas,hat,hc,hss,hmks⟩:∃ba bn bc mk ok step ss',Maps.has D (.int .i64 (y:Int))=ok/\(∀v ps,wrElem v=some (D.atKey (.int .i64 (y:Int)) .nil,ps)->v=.agg #[.slice ba bn bc,.int .i64 mk])/\((step=[]/\ms.length=0)\/(step=[]/\ms.length≠0/\ok=true/\¬mk<(ms.length:Int))\/(step=[.iface 207 (.int .i64 (y:Int))]/\ms.length≠0/\ok=false)\/(step=[.iface 209 (.agg #[.int .i64 (y:Int),.slice ba bn bc,.int .i64 mk])]/\ms.length≠0/\ok=true/\mk<(ms.length:Int)))/\(ss'.map stepV=ss.map stepV++step/\ss'.length=ss.length+step.length/\∀s∈ss',s.1<nb)/\∀g cp,Mk (putX a y (g,cp,(ms.length:Int))) ss' ms:=by
  cases ha:a y with
  | some r=>
   obtain⟨g,cp,k⟩:=r
   have hle:=h.mks.le y g cp k ha
   have hhas:=(hA.hit y _ ha).1
   have hat:∀v ps,wrElem v=some (D.atKey (.int .i64 (y:Int)) .nil,ps)->v=.agg #[.slice (some ⟨g,0,none⟩) 512 cp,.int .i64 k]:=fun v ps hv=>by
    rw[(hA.hit y _ ha).2]at hv
    exact wrElem_inv hv
   by_cases hz:ms=[]
   ·exact⟨_,_,_,_,true,[],ss,hhas,hat,.inl ⟨rfl,by simp[hz]⟩,⟨by simp,by simp,h.sn⟩,fun g' cp'=>h.mks.lay0 (.inl hz)⟩
   ·have hl:ms.length≠0:=fun e=>hz (List.length_eq_zero_iff.1 e)
    by_cases hk:k=(ms.length:Int)
    ·exact⟨_,_,_,_,true,[],ss,hhas,hat,.inr (.inl ⟨rfl,hl,rfl,by omega⟩),⟨by simp,by simp,h.sn⟩,fun g' cp'=>h.mks.lay0 (.inr ⟨g,cp,hk ▸ ha⟩)⟩
    ·refine⟨_,_,_,_,true,_,ss++[(y,a y)],hhas,hat,.inr (.inr (.inr ⟨rfl,hl,rfl,by omega⟩)),⟨by rw[List.map_append,ha];rfl,by simp,fun s hs=>?_⟩,fun g' cp'=>h.mks.lay1 y g' cp'⟩
     simp at hs
     rcases hs with hs | hs
     ·exact h.sn s hs
     ·rw[hs];exact hy
  | none=>
   have hhas:Maps.has D (.int .i64 (y:Int))=false:=hA.miss (y:Int) (fun z e=>by
    have:z=y:=by omega
    rw[this];exact ha)
   have hat:∀v ps,wrElem v=some (D.atKey (.int .i64 (y:Int)) .nil,ps)->v=.agg #[.slice none 0 0,.int .i64 0]:=fun v ps hv=>by
    rw[Maps.atKey_of_not_has hhas]at hv
    exact wrElem_nil hv
   by_cases hz:ms=[]
   ·exact⟨_,_,_,_,false,[],ss,hhas,hat,.inl ⟨rfl,by simp[hz]⟩,⟨by simp,by simp,h.sn⟩,fun g' cp'=>h.mks.lay0 (.inl hz)⟩
   ·have hl:ms.length≠0:=fun e=>hz (List.length_eq_zero_iff.1 e)
    refine⟨_,_,_,_,false,_,ss++[(y,a y)],hhas,hat,.inr (.inr (.inl ⟨rfl,hl,rfl⟩)),⟨by rw[List.map_append,ha];rfl,by simp,fun s hs=>?_⟩,fun g' cp'=>h.mks.lay1 y g' cp'⟩
    simp at hs
    rcases hs with hs | hs
    ·exact h.sn s hs
    ·rw[hs];exact hy
 have hisb:=hR.2.1
 refine Calls.mono (lay_raw hx hm h.st hn hns y hy hnb ad cd zs hR hhas hat step hc) ?_
 rintro e w' ⟨rfl,g,cp,sv',q1,q2,q3,q4,q5,q6,q7⟩
 rw[<- hmv]at q4
 have s7:=q7.size
 have hstl:step.length<=1:=by
  rcases hc with ⟨e,_⟩ | ⟨e,_⟩ | ⟨e,_⟩ | ⟨e,_⟩ <;> rw[e] <;> simp
 have hgl:g<w'.heap.size:=q2.lt
 have hsl:∀k,sv'.ownBlock=some k->k<w'.heap.size:=fun k e=>(World.ownsRow.lt q5 k e).2
 have hbz:∀k,k<w.heap.size->(k=m\/k=x\/sv.ownBlock=some k)->Z k:=fun k _ e=>by
  rcases e with e | e | e
  ·exact e ▸ h.zm
  ·exact e ▸ h.zx
  ·exact h.zs k e
 have hold:∀z r,Lies a ms z r->Own w' r.1 512 r.2.1 (val r.1)/\r.1<w.heap.size/\r.1≠g:=fun z r hl=>by
  obtain⟨r1,_,_,_⟩:=h.dat z r hl
  have hlt:=r1.lt
  refine⟨r1.keep (q7.block _ hlt (fun e=>?_)),hlt,by omega⟩
  rcases e with e | e | e
  ·exact own_ne_map r1 hm e
  ·exact own_ne_x r1 h.blk e
  ·exact own_ne_row r1 h.st (by decide) e rfl
 refine⟨rfl,putX a y (g,cp,(ms.length:Int)),sv',ss',fun b=>if b=g then zs else val b,fun k=>(Z k/\k<w.heap.size)\/(w.heap.size<=k/\k<w'.heap.size/\(k=g\/sv'.ownBlock=some k)),?_,?_,fun i p b e=>?_,by omega,fun k q=>by rcases q with q | q <;> omega,fun k hk q=>by
  rcases q with q | q
  ·exact q.1
  ·omega,q7.mono hbz⟩
 ·refine { blk:=q4,mp:=⟨_,q3,hA.put y hy _⟩,st:=?_,mr:=owns_keep h.mr (fun k e=>q7.block k (l4 k e) (fun e2=>?_)),dat:=fun z r q=>?_,sn:=hss.2.2,mks:=hmks g cp,zx:=.inl ⟨h.zx,l1⟩,zm:=.inl ⟨h.zm,l2⟩,zs:=fun k e=>?_,zk:=fun k e=>.inl ⟨h.zk k e,l4 k e⟩ }
  ·rw[hss.1,hss.2.1]
   exact q5
  ·rcases e2 with e2 | e2 | e2
   ·exact mapW_row hm h.mr e e2
   ·exact row_ne_x h.mr h.blk (by decide) e e2
   ·obtain⟨c1,e1⟩:=row_cur h.mr e
    obtain⟨c2,e3⟩:=row_cur h.st e2
    exact cells_ne e1 e3 (by decide) rfl
  ·by_cases hnew:z=y/\putX a y (g,cp,(ms.length:Int)) z=some r
   ·obtain⟨rfl,e⟩:=hnew
    have e':(g,cp,(ms.length:Int))=r:=by simpa [putX] using e
    subst e'
    exact⟨by simpa using q2,by simpa using hisb,⟨hy,hh⟩,.inr ⟨q1,hgl,.inl rfl⟩⟩
   ·have hl:Lies a ms z r:=by
     rcases q with q | q
     ·have hzy:z≠y:=fun e=>hnew ⟨e,q⟩
      exact .inl (by simpa [putX,hzy] using q)
     ·exact .inr q
    obtain⟨r1,r2,r3,r4⟩:=h.dat z r hl
    obtain⟨t1,t2,t3⟩:=hold z r hl
    exact⟨by simpa [t3] using t1,by simpa [t3] using r2,r3,.inl ⟨r4,t2⟩⟩
  ·rcases Nat.lt_or_ge k w.heap.size with e2 | e2
   ·refine .inl ⟨?_,e2⟩
    rcases q6 k e with e3 | e3
    ·exact h.zs k e3
    ·omega
   ·exact .inr ⟨e2,hsl k e,.inr e⟩
 ·funext z
  by_cases hz:z=y
  ·simp[LofA,putX,putL,hz]
  ·cases ha:a z with
   | none=>simp[LofA,putX,putL,hz,ha]
   | some r=>
    have:=(hold z r (.inl ha)).2.2
    simp[LofA,putX,putL,hz,ha,this]
 ·funext z
  cases hb:b z with
  | none=>simp[LofA,hb]
  | some r=>
   have:=(hold z r (.inr ⟨i,p,b,e,hb⟩)).2.2
   simp[LofA,hb,this]
open Go.RowKit Go.Maps Go.Sort Go.Shelf
def keysB_ren:Go.Shelf.Ren:=⟨fun | 7=>75 | 10=>132 | n=>n,fun | 23=>132 | 26=>3 | 3=>142 | 28=>139 | 0=>0 | 27=>138 | 33=>90 | 4=>4 | n=>n,fun | n=>n⟩
theorem keysB:Go.Proofs.SlLaysZI.n7 Tryz.prog keysB_ren:={
 mixed:=by kernel_rfl
 f7:=⟨Tryz.f75.name,by decide,Tryz.func75.trans (congrArg some (by kernel_rfl))⟩
 f10:=⟨Tryz.f132.name,by decide,Tryz.func132.trans (congrArg some (by kernel_rfl))⟩
 t0:=Tryz.underlying0
 a0:=Tryz.isAgg0
 z0:=Tryz.sizeOf0
 v0:=Tryz.zeroValue0
 t4:=Tryz.underlying4
 a4:=Tryz.isAgg4
 z4:=Tryz.sizeOf4
 v4:=Tryz.zeroValue4
 t23:=Tryz.underlying132
 a23:=Tryz.isAgg132
 z23:=Tryz.sizeOf132
 v23:=Tryz.zeroValue132
 t26:=Tryz.underlying3
 a26:=Tryz.isAgg3
 z26:=Tryz.sizeOf3
 v26:=Tryz.zeroValue3
 t27:=Tryz.underlying138
 a27:=Tryz.isAgg138
 z27:=Tryz.sizeOf138
 v27:=Tryz.zeroValue138
 t28:=Tryz.underlying139
 a28:=Tryz.isAgg139
 z28:=Tryz.sizeOf139
 v28:=Tryz.zeroValue139
 t33:=Tryz.underlying90
 a33:=Tryz.isAgg90
 z33:=Tryz.sizeOf90
 v33:=Tryz.zeroValue90 }
theorem keysB_any(mb:Option Nat)(w:World):Calls Tryz.prog 75 #[.map mb] w fun e w'=>e=.returned (.func (.func 132) #[] #[.pointer (some ⟨w.heap.size,0,none⟩)])/\w'=w.alloc (.cells #[.map mb] 132) :=
 (callsIn_wide (n:=6)).1 (AnyZI.keys_in keysB Fence.wide 6 trivial rfl mb w)
theorem sortedB_any(b nn:Nat)(D0:DataW H)(R:Value->Option (DataW H×List MemPlace))(w:World)(hown:w.ownsMap Tryz.prog 3 R b nn D0)(hmax:Maps.size D0<=maxLen)(hbytes:Maps.size D0 * 8<=140737488355328) :
  Calls Tryz.prog 74 #[.func (.func 132) #[] #[.pointer (some ⟨w.heap.size,0,none⟩)]] (w.alloc (.cells #[.map (some b)] 132)) fun e w'=>∃(v:Value) (ss:List Int),e=.returned v/\ss.Perm (intKeys D0) /\
   w'.ownsRow w.heap.size 3 1 v ss.length ((ss.mergeSort (fun x y=>decide (x<=y))).map encZ)/\(v=.slice none 0 0 ↔ ss=[])/\Below w.heap.size w w':=by
 have hbl:=hown.lt
 have hseq:SeqGives Fence.wide 2 Tryz.prog 132 #[.pointer (some ⟨w.heap.size,0,none⟩)] encZ (fun ss=>ss.Perm (intKeys D0)) (Maps.size D0) (w.alloc (.cells #[.map (some b)] 132)) :=
  AnyZI.keys_gives (ρ:=keysB_ren) { keysB with } Fence.wide _ trivial rfl (by omega) w.heap.size b nn D0 _ (by simp) (by simp) (by
   obtain⟨es,clock,hb,Ft,hs,hD⟩:=hown
   exact⟨es,clock,(Below.heap_alloc _ _ b hbl).trans hb,Ft,hs,hD⟩)
 have cS:=AnyZI.sorted_in sortedA Fence.wide 5 trivial trivial trivial trivial rfl (by omega) (sortsA _) (enters_of Tryz.func131 (by kernel_rfl) rfl) 132 #[.pointer (some ⟨w.heap.size,0,none⟩)] trivial (enters_of Tryz.func132 (by kernel_rfl) rfl) _ _ hmax hbytes _ hseq
 change CallsIn _ _ Tryz.prog 74 _ _ _ at cS
 refine Calls.mono ((callsIn_wide).1 cS) ?_
 rintro e w' ⟨v,ss,rfl,hS,hrow,hnil,hb⟩
 exact⟨v,ss,rfl,hS,ownsRow_base_a hrow (by simp),hnil,((Below.refl _ w).alloc (Nat.le_refl _) _).trans (hb.mono (by simp))⟩
end Go.Proofs.YtlefjidbpjkhlaaGreat
