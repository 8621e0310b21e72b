import Derived.Test.YtlefjidbpjkhlaaGreatK16
import Derived.LaidEqlPtr
import Derived.Test.YtlefjidbpjkhlaaGreatK12
import Derived.Maps.Views
set_option maxRecDepth 100000
set_option maxHeartbeats 16000000
namespace Go.Proofs.YtlefjidbpjkhlaaGreat
variable {Y Z Zw:Nat->Prop}
variable {w w' w1:World}
variable {K b bl c j m n p st t x y:Nat}
variable {d:Pd}
variable {s:Js}
variable {fv mv sv tv v wv:Value}
variable {H:Type}
variable {D:DataW (Nat×Nat×Int)}
variable {L:Nat->Option (List Int)}
variable {zs:List Int}
open Go.RowKit
def jread (d:Pd) (s:Js) (x:Nat):List Int:=(s.ah x).getD (d.read x)
theorem Jq.checkHome{room nb fr:Nat}(h:Jq Z w j c p room nb K fr bl d s)(h1:fr+bl<=nb)(at_:Int):Calls Tryz.prog 134 #[.pointer (some ⟨j,0,none⟩),.int .i64 at_] w fun e w'=>e=.returned (.int .i64 (homeC nb fr bl at_))/\Below w.heap.size w w':=by
 have hnb:=h.fits.2.2
 obtain⟨mv,hJ,_⟩:=h.cells
 obtain⟨hD,c0,hcl⟩:=h.dk
 exact jcheckHome_any hJ c0 hD (by omega) (by omega) (by omega) (by omega) at_
theorem Read_far{room nb fr:Nat}(h:Jq Z w j c p room nb K fr bl d s)(h1:fr+bl<=nb)(hon:d.off=false)(at_:Int)(hh:homeC nb fr bl at_≠0):Calls Tryz.prog 259 #[.pointer (some ⟨j,0,none⟩),.int .i64 at_] w fun e w'=>e=.returned (.tuple #[.slice none 0 0,.int .i64 (homeC nb fr bl at_)])/\Below w.heap.size w w':=by
 have H:=hid h.ask
 rw[hon]at H
 have HC:Hid (∀w1,Below w.heap.size w w1->Calls Tryz.prog 134 #[.pointer (some ⟨j,0,none⟩),.int .i64 at_] w1 fun e w'=>e=.returned (.int .i64 (homeC nb fr bl at_))/\Below w1.heap.size w1 w'):=fun w1 b1=>(h.below b1).checkHome h1 at_
 clear h hon h1
 generalize homeC nb fr bl at_=hc at *
 go_enter Tryz.func259,Tryz.ntmps259
 go_wp2_with fail
 refine Calls.mono H.out ?_
 rintro e w1 ⟨rfl,b1⟩
 have HC1:=hid (HC.out w1 b1)
 have B1:=hid b1
 clear b1 H HC
 go_wp2_with fail
 refine Calls.mono HC1.out ?_
 rintro e w2 ⟨rfl,b2⟩
 have B2:=hid (B1.out.trans (b2.mono B1.out.size))
 clear b2 HC1 B1
 go_wp2
 go_ret2
 exact⟨rfl,B2.out⟩
theorem Read_home{room nb fr:Nat}(h:Jq Z w j c p room nb K fr bl d s)(h1:fr+bl<=nb)(hon:d.off=false)(hl:d.puts.length<=1073741824)(hK:K<4611686018427387904)(x:Nat)(hx:x<nb)(hh:homeC nb fr bl (x:Int)=0) :
  Calls Tryz.prog 259 #[.pointer (some ⟨j,0,none⟩),.int .i64 (x:Int)] w fun e w'=>∃g cp,e=.returned (.tuple #[.slice (some ⟨g,0,none⟩) 512 cp,.int .i64 0])/\w.heap.size<=g/\Own w' g 512 cp (jread d s x)/\Pl.isB (jread d s x)/\(∃Z',Jq Z' w' j c p room nb (K+1) fr bl d s/\Gr Z Z' w/\¬Z' g)/\But Z w w':=by
 have H:=hid h.ask
 rw[hon]at H
 have hnb:=h.fits.2.2
 have HC:Hid (∀w1,Below w.heap.size w w1->Calls Tryz.prog 134 #[.pointer (some ⟨j,0,none⟩),.int .i64 (x:Int)] w1 fun e w'=>e=.returned (.int .i64 0)/\Below w1.heap.size w1 w'):=fun w1 b1=>by
  have:=(h.below b1).checkHome h1 (x:Int)
  rwa [hh]at this
 have hkey:=keyOf3 (wf_small (x:=(x:Int)) (by omega) (by omega))
 have HJ:=hid (And.intro h (And.intro hon (And.intro hl hK)))
 clear h hon h1 hh hl hK
 go_enter Tryz.func259,Tryz.ntmps259
 go_wp2_with fail
 refine Calls.mono H.out ?_
 rintro e w1 ⟨rfl,b1⟩
 have HC1:=hid (HC.out w1 b1)
 have B1:=hid b1
 clear b1 H HC
 go_wp2_with fail
 refine Calls.mono HC1.out ?_
 rintro e w2 ⟨rfl,b2⟩
 have B2:=hid (B1.out.trans (b2.mono B1.out.size))
 clear b2 HC1 B1
 obtain⟨Zc,m,n,D,a,hW⟩:=(HJ.out.1.cut.below B2.out)
 have j6:=hW.jb.cell 6
 have j0:=hW.jb.cell 0
 simp at j6 j0
 have hm:=hW.mp
 have hs2:=B2.out.size
 cases ha:a x with
 | some r=>
  obtain⟨g,cp⟩:=r
  obtain⟨zs,e1,e2,e3,e4,e5,e6⟩:=hW.dat x g cp ha
  have hhas:=(hW.am.hit x (g,cp) ha).1
  have hatk:=(hW.am.hit x (g,cp) ha).2
  have HCl:=hid (Clone_any ⟨g,0,none⟩ 512 cp zs w2 (by omega) (e2.rd e3))
  have HW:=hid hW
  have hjr:Hid (jread d s x=zs):=by unfold jread;rw[e1];rfl
  have HZ3:=hid e3
  clear hW e1 e2 e3 e4 e5 e6 ha
  go_wp2_with (at_lookup;refine wpList_lookup_own_ok _ rfl _ _ 149 rfl 3 65 law3 Tryz.underlying149 slElem (zero22 _) .nil [] rfl m n D rfl hm _ _ rfl hkey ?_;intro v ps hv;rw[hatk .nil]at hv;obtain rfl:=slElem_inv hv;clear hv;rw[hhas])
  refine Calls.mono HCl.out ?_
  rintro e w3 ⟨g3,cp3,rfl,hg3,ho3,b3⟩
  have FIN:Hid (w.heap.size<=g3/\Own w3 g3 512 cp3 (jread d s x)/\Pl.isB (jread d s x)/\(∃Z',Jq Z' w3 j c p room nb (K+1) fr bl d s/\Gr Z Z' w/\¬Z' g3)/\But Z w w3):=by
   rw[hjr.out]
   have hJ3:Jq (fun k=>Z k/\k<w.heap.size) w3 j c p room nb K fr bl d s:=Jq.below ⟨Zc,m,n,D,a,HW.out⟩ b3
   exact⟨by omega,ho3,HZ3.out,⟨_,hJ3.mono (fun _ q=>q) (by omega),fun k _ q=>q.1,fun q=>by have:=q.2;omega⟩,But.of_below (B2.out.trans (b3.mono B2.out.size))⟩
  clear hg3 ho3 b3 HCl HW hm j6 j0
  go_wp2
  go_ret2
  exact⟨g3,cp3,rfl,FIN.out⟩
 | none=>
  have hahn:=hW.non x ha
  have hhas:Maps.has D (.int .i64 (x:Int))=false:=hW.am.miss (x:Int) (fun y e=>by
   have:y=x:=by omega
   rw[this];exact ha)
  have hjr:Hid (jread d s x=d.read x):=by unfold jread;rw[hahn];rfl
  have HR:=hid (hW.cq.cread HJ.out.2.2.1 HJ.out.2.2.2 HJ.out.2.1 x hx)
  have hib:=hid (Pd.read_len hW.cq x hx).2
  have HW:=hid hW
  clear hW ha hahn
  go_wp2_with (at_lookup;refine wpList_lookup_own_ok _ rfl _ _ 149 rfl 3 65 law3 Tryz.underlying149 slElem (zero22 _) .nil [] rfl m n D rfl hm _ _ rfl hkey ?_;intro v ps hv;clear hv;rw[hhas])
  refine Calls.mono HR.out ?_
  rintro e w3 ⟨g3,cp3,rfl,hg3,ho3,⟨Zc3,hq3,hG3,hn3⟩,b3⟩
  have FIN:Hid (w.heap.size<=g3/\Own w3 g3 512 cp3 (jread d s x)/\Pl.isB (jread d s x)/\(∃Z',Jq Z' w3 j c p room nb (K+1) fr bl d s/\Gr Z Z' w/\¬Z' g3)/\But Z w w3):=by
   rw[hjr.out]
   refine⟨by omega,ho3,hib.out,⟨_,⟨Zc3,m,n,D,a,HW.out.turn hq3 hG3 b3⟩,fun k hk q=>?_,fun q=>?_⟩,(But.of_below B2.out).comp b3 (fun k _ q=>(HW.out.sub k q).1)⟩
   ·rcases q with q | q
    ·exact q.1.1
    ·exact (HW.out.sub k (hG3 k (by omega) q)).1
   ·rcases q with q | q
    ·have:=q.2;omega
    ·exact hn3 q
  clear hg3 ho3 b3 HR HW hm j6 j0 hq3 hG3 hn3
  go_wp2
  go_ret2
  exact⟨g3,cp3,rfl,FIN.out⟩
open Go.RowKit Go.Deep
def Stb (w:World) (st j:Nat) (tv:Value):Prop:=w.heap[st]?=some (.cells #[.pointer (some ⟨j,0,none⟩),.iface 76 (.pointer (some ⟨j,0,none⟩)),tv] 82 (0,0))
theorem Stb.lt(h:Stb w st j tv):st<w.heap.size:=(Array.getElem?_eq_some_iff.1 h).1
theorem Stb.cell(h:Stb w st j tv)(t:Nat):w.cell? ⟨st,t,none⟩=#[.pointer (some ⟨j,0,none⟩),.iface 76 (.pointer (some ⟨j,0,none⟩)),tv][t]?:=by
 unfold Stb at h
 simp[World.cell?,h]
theorem Stb.frozen(h:Stb w st j tv)(t:Nat):w.frozen? ⟨st,t,none⟩=false:=by
 unfold Stb at h
 simp[World.frozen?,h]
theorem Stb.keep(h:Stb w st j tv)(hk:w'.heap[st]?=w.heap[st]?):Stb w' st j tv:=hk.trans h
theorem Stb.set(h:Stb w st j tv)(v:Value):Stb (w.setCell ⟨st,2,none⟩ v) st j v:=by
 unfold Stb at *
 simp only[World.setCell,Array.getElem?_modify]
 rw[h]
 simp
def Txb (w:World) (t j:Nat) (fv:Value) (st:Nat) (wv:Value):Prop:=w.heap[t]?=some (.cells #[.pointer (some ⟨j,0,none⟩),fv,.pointer (some ⟨st,0,none⟩),wv] 86 (0,0))
theorem Txb.lt(h:Txb w t j fv st wv):t<w.heap.size:=(Array.getElem?_eq_some_iff.1 h).1
theorem Txb.cell(h:Txb w t j fv st wv)(i:Nat):w.cell? ⟨t,i,none⟩=#[.pointer (some ⟨j,0,none⟩),fv,.pointer (some ⟨st,0,none⟩),wv][i]?:=by
 unfold Txb at h
 simp[World.cell?,h]
theorem Txb.frozen(h:Txb w t j fv st wv)(i:Nat):w.frozen? ⟨t,i,none⟩=false:=by
 unfold Txb at h
 simp[World.frozen?,h]
theorem Txb.keep(h:Txb w t j fv st wv)(hk:w'.heap[t]?=w.heap[t]?):Txb w' t j fv st wv:=hk.trans h
theorem info146:(Tryz.prog.info? 86).map (fun i=>i.size)=some 4:=by kernel_rfl
theorem neq_tsame(w:World)(a:Addr):(binOp .neq 30 (.pointer (some a)) (.pointer (some a))).run Tryz.prog w=.ok (.bool false) w:=by
 obtain⟨j,hj,_⟩:=Option.map_eq_some_iff.1 info146
 have h:∀d:Nat,(Op.equalIn (d+1) 30 (.pointer (some a)) (.pointer (some a))).run Tryz.prog w=.ok true w:=fun d=>by
  simp[Op.equalIn,run_underlying Tryz.underlying30,sizeOf,typeInfo,hj,run_sameAddr_same]
 simp only[binOp]
 simp[Op.equal,Op.maxDepth,h 9999]
theorem neq_tother(hne:x≠y){a b:Array Value}{p q:TypeId}(hx:w.heap[x]?=some (.cells a p (0,0)))(hy:w.heap[y]?=some (.cells b q (0,0))):(binOp .neq 30 (.pointer (some ⟨x,0,none⟩)) (.pointer (some ⟨y,0,none⟩))).run Tryz.prog w=.ok (.bool true) w:=by
 obtain⟨j,hj,hs⟩:=Option.map_eq_some_iff.1 info146
 have hsz:j.size≠0:=by rw[hs];decide
 have hne':(⟨x,0,none⟩:Addr)≠⟨y,0,none⟩:=fun q=>hne (by injection q)
 have h:∀d:Nat,(Op.equalIn (d+1) 30 (.pointer (some ⟨x,0,none⟩)) (.pointer (some ⟨y,0,none⟩))).run Tryz.prog w=.ok false w:=fun d=>by
  simp[Op.equalIn,run_underlying Tryz.underlying30,sizeOf,typeInfo,hj,hsz,run_sameAddr_other w hne' hx hy]
 simp only[binOp]
 simp[Op.equal,Op.maxDepth,h 9999]
theorem power_any{room nb fr:Nat}(h:Jq Z w j c p room nb K fr bl d s)(hc:w.cell? ⟨b,0,none⟩=some (.pointer (some ⟨j,0,none⟩))):Calls Tryz.prog 72 #[.pointer (some ⟨b,0,none⟩)] w fun e w'=>e=.returned (.int .i64 (if d.off then 24 else 0))/\Below w.heap.size w w':=by
 have H:=hid (Seq_any h)
 clear h
 generalize (if d.off then (24:Int) else 0)=code at *
 generalize (if d.off then (0:Int) else (s.seq:Int))=sq at *
 go_enter Tryz.func72,Tryz.ntmps72
 go_wp2_with fail
 refine Calls.mono H.out ?_
 rintro e w1 ⟨rfl,b1⟩
 have B1:=hid b1
 clear b1 H
 go_wp2
 go_ret
 exact⟨rfl,B1.out⟩
theorem sask_any{room nb fr:Nat}(h:Jq Z w j c p room nb K fr bl d s)(hs:Stb w st j tv):Calls Tryz.prog 37 #[.pointer (some ⟨st,0,none⟩)] w fun e w'=>e=.returned (.int .i64 (if d.off then 24 else 0))/\Below w.heap.size w w':=by
 have H:=hid (power_any h (hs.cell 0))
 clear h hs
 generalize (if d.off then (24:Int) else 0)=code at *
 go_enter Tryz.func37,Tryz.ntmps37
 go_wp2_with fail
 refine Calls.mono H.out ?_
 rintro e w1 ⟨rfl,b1⟩
 have B1:=hid b1
 clear b1 H
 go_wp2
 go_ret
 exact⟨rfl,B1.out⟩
theorem task_open{room nb fr:Nat}(h:Jq Z w j c p room nb K fr bl d s)(hon:d.off=false)(ht:Txb w t j fv st wv)(hs:Stb w st j (.pointer (some ⟨t,0,none⟩))):Calls Tryz.prog 40 #[.pointer (some ⟨t,0,none⟩)] w fun e w'=>e=.returned (.int .i64 0)/\Below w.heap.size w w':=by
 have H:=hid (power_any h (ht.cell 0))
 rw[hon]at H
 have HC:Hid (∀w',Below w.heap.size w w'->w'.cell? ⟨t,2,none⟩=some (.pointer (some ⟨st,0,none⟩))/\w'.cell? ⟨st,2,none⟩=some (.pointer (some ⟨t,0,none⟩))):=fun w' b=>⟨(b.cell (p:=⟨t,2,none⟩) ht.lt).trans (ht.cell 2),(b.cell (p:=⟨st,2,none⟩) hs.lt).trans (hs.cell 2)⟩
 clear h ht hs
 go_enter Tryz.func40,Tryz.ntmps40
 go_wp2_with fail
 refine Calls.mono H.out ?_
 rintro e w1 ⟨rfl,b1⟩
 obtain⟨c2,c3⟩:=HC.out w1 b1
 have hq:=neq_tsame w1 ⟨t,0,none⟩
 have B1:=hid b1
 clear b1 H HC
 go_wp2
 go_ret
 exact⟨rfl,B1.out⟩
open Go.RowKit Go.Deep
def cntX {H:Type} (a:Nat->Option H):Nat->Nat
 | 0=>0
 | n+1=>cntX a n+if (a n).isSome then 1 else 0
theorem cntX_le(a:Nat->Option H)(n:Nat):cntX a n<=n:=by
 induction n with
 | zero=>exact Nat.le_refl _
 | succ n ih=>unfold cntX;split <;> omega
structure AMx {H:Type} (nb:Nat) (D:DataW H) (a:Nat->Option H):Prop where
 tidy:Maps.Tidy D
 cnt:Maps.size D<=cntX a nb
 hit:∀x q,a x=some q->Maps.has D (.int .i64 (x:Int))=true/\∀z,D.atKey (.int .i64 (x:Int)) z=.held q
 miss:∀x:Int,(∀y:Nat,(y:Int)=x->a y=none)->Maps.has D (.int .i64 x)=false
theorem AMx.nil(nb:Nat):AMx (H:=H) nb (.map []) (fun _=>none):=⟨Maps.tidy_empty,Nat.zero_le _,fun x q h=>(by cases h),fun _ _=>rfl⟩
def putX {H:Type} (a:Nat->Option H) (x:Nat) (q:H):Nat->Option H:=fun y=>if y=x then some q else a y
theorem cnt_putX(a:Nat->Option H)(x:Nat)(q:H)(n:Nat):cntX (putX a x q) n=cntX a n+if x<n/\a x=none then 1 else 0:=by
 induction n with
 | zero=>simp[cntX]
 | succ n ih=>
  unfold cntX
  rw[ih]
  by_cases e:n=x
  ·subst e
   have h1:(putX a n q n).isSome=true:=by simp[putX]
   rw[h1]
   cases ha:a n <;> simp
  ·have h1:putX a x q n=a n:=by simp[putX,e]
   rw[h1]
   by_cases h2:x<n
   ·have h3:x<n+1:=by omega
    simp only[h2,h3,true_and]
    omega
   ·have h3:¬x<n+1:=by omega
    simp only[h2,h3,false_and,if_false]
    omega
theorem AMx.put{nb:Nat}{D:DataW H}{a:Nat->Option H}(h:AMx nb D a)(x:Nat)(hx:x<nb)(q:H):AMx nb (D.put (.int .i64 (x:Int)) (.held q)) (putX a x q):=by
 have hk:WideAt.IsKeyLit (.int .i64 (x:Int)):=trivial
 refine⟨h.tidy.put hk _,?_,fun y r hr=>?_,fun y hy=>?_⟩
 ·rw[Maps.size_put h.tidy,cnt_putX]
  have hc:=h.cnt
  cases ha:a x with
  | none=>
   simp only[hx,true_and,if_true]
   split <;> omega
  | some r=>
   rw[(h.hit x r ha).1]
   simp
   omega
 ·by_cases e:y=x
  ·subst e
   have:q=r:=by simpa [putX] using hr
   subst this
   exact⟨Maps.has_put_same h.tidy.isMap hk _,fun z=>Maps.atKey_put_same h.tidy.isMap hk _ z⟩
  ·have hne:(Lit.int .i64 (y:Int))≠.int .i64 (x:Int):=fun q=>e (by injection q with _ q;omega)
   have hr':a y=some r:=by simpa [putX,e] using hr
   exact⟨by rw[Maps.has_put_other hne];exact (h.hit y r hr').1,fun z=>by rw[Maps.atKey_put_other hne];exact (h.hit y r hr').2 z⟩
 ·have hne:(Lit.int .i64 y)≠.int .i64 (x:Int):=fun q=>by
   injection q with _ q
   have:=hy x q.symm
   simp[putX]at this
  rw[Maps.has_put_other hne]
  refine h.miss y (fun t ht=>?_)
  have:=hy t ht
  unfold putX at this
  split at this
  ·cases this
  ·exact this
def wrElem (v:Value):Option (DataW (Nat×Nat×Int)×List MemPlace) :=
 match v with
 | .agg cs=>match cs.toList with
  | [.slice none 0 0,.int .i64 0]=>some (.nil,[])
  | [.slice (some ⟨g,0,none⟩) 512 c,.int .i64 m]=>some (.held (g,c,m),[])
  | _=>none
 | _=>none
theorem wrElem_inv{g:Nat}{m:Int}{ps:List MemPlace}(h:wrElem v=some (.held (g,c,m),ps)):v=.agg #[.slice (some ⟨g,0,none⟩) 512 c,.int .i64 m]:=by
 unfold wrElem at h
 split at h
 ·rename_i cs
  split at h
  ·cases h
  ·rename_i e
   cases h
   have:cs=#[.slice (some ⟨g,0,none⟩) 512 c,.int .i64 m]:=by
    cases cs
    simpa using e
   rw[this]
  ·cases h
 ·cases h
theorem wrElem_nil{ps:List MemPlace}(h:wrElem v=some (.nil,ps)):v=.agg #[.slice none 0 0,.int .i64 0]:=by
 unfold wrElem at h
 split at h
 ·rename_i cs
  split at h
  ·rename_i e
   have:cs=#[.slice none 0 0,.int .i64 0]:=by
    cases cs
    simpa using e
   rw[this]
  ·cases h
  ·cases h
 ·cases h
theorem homeC_forty{nb fr:Nat}{at_:Int}(h:homeC nb fr bl at_≠0):homeC nb fr bl at_=42:=by
 unfold homeC at *
 split at h
 ·rename_i q;rw[if_pos q]
 ·exact absurd rfl h
theorem zero214(w:World):(zeroValue 142).run Tryz.prog w=.ok (.agg #[.slice none 0 0,.int .i64 0]) w:=by kernel_rfl
structure Wq (Z:Nat->Prop) (w:World) (x j m n nb fr bl:Nat) (D:DataW (Nat×Nat×Int)) (a:Nat->Option (Nat×Nat×Int)) (sv mv:Value) (L:Nat->Option (List Int)):Prop where
 blk:w.heap[x]?=some (.cells #[.iface 76 (.pointer (some ⟨j,0,none⟩)),.map (some m),sv,mv] 135 (0,0))
 mp:w.ownsMap Tryz.prog 3 wrElem m n D
 am:AMx nb D a
 dat:∀y g cp k,a y=some (g,cp,k)->∃zs,L y=some zs/\Own w g 512 cp zs/\Pl.isB zs/\(y<nb/\homeC nb fr bl (y:Int)=0)/\Z g
 non:∀y,a y=none->L y=none
 zx:Z x
 zm:Z m
theorem Wq.lt{nb fr:Nat}{a:Nat->Option (Nat×Nat×Int)}(h:Wq Z w x j m n nb fr bl D a sv mv L):x<w.heap.size:=(Array.getElem?_eq_some_iff.1 h.blk).1
theorem Wq.cell{nb fr:Nat}{a:Nat->Option (Nat×Nat×Int)}(h:Wq Z w x j m n nb fr bl D a sv mv L)(t:Nat):w.cell? ⟨x,t,none⟩=#[.iface 76 (.pointer (some ⟨j,0,none⟩)),.map (some m),sv,mv][t]?:=by
 have hb:=h.blk
 simp[World.cell?,hb]
theorem mapW_keep{mp:Nat}(h:w.ownsMap Tryz.prog 3 wrElem mp n D)(hk:w'.heap[mp]?=w.heap[mp]?):w'.ownsMap Tryz.prog 3 wrElem mp n D:=by
 obtain⟨es,ck,h1,h2⟩:=h
 exact⟨es,ck,hk.trans h1,h2⟩
theorem Wq.keep{nb fr:Nat}{a:Nat->Option (Nat×Nat×Int)}(h:Wq Z w x j m n nb fr bl D a sv mv L)(hk:∀k,Z k->k<w.heap.size->w'.heap[k]?=w.heap[k]?):Wq Z w' x j m n nb fr bl D a sv mv L where
 blk:=(hk x h.zx h.lt).trans h.blk
 mp:=mapW_keep h.mp (hk m h.zm h.mp.lt)
 am:=h.am
 dat:=fun y g cp k e=>by
  obtain⟨zs,e1,e2,e3,e4,e5⟩:=h.dat y g cp k e
  exact⟨zs,e1,e2.keep (hk g e5 e2.lt),e3,e4,e5⟩
 non:=h.non
 zx:=h.zx
 zm:=h.zm
theorem Wq.but{nb fr:Nat}{a:Nat->Option (Nat×Nat×Int)}(h:Wq Z w x j m n nb fr bl D a sv mv L)(hb:But Y w w')(hy:∀k,k<w.heap.size->Z k->¬Y k):Wq Z w' x j m n nb fr bl D a sv mv L:=h.keep (fun k q hk=>hb.block k hk (hy k hk q))
theorem readJ(v:Value)(w:World):Sem.run Tryz.prog (method 414 76 v "Read") w=.ok (259,v) w:=by kernel_rfl
theorem readW(v:Value)(w:World):Sem.run Tryz.prog (method 414 83 v "Read") w=.ok (261,v) w:=by kernel_rfl
theorem wread_home{room nb fr:Nat}{a:Nat->Option (Nat×Nat×Int)}(h:Jq Z w j c p room nb K fr bl d s)(hW:Wq Zw w x j m n nb fr bl D a sv mv L)(h1:fr+bl<=nb)(hon:d.off=false)(hl:d.puts.length<=1073741824)(hK:K<4611686018427387904)(hnb:nb<=524288)(y:Nat)(hy:y<nb)(hh:homeC nb fr bl (y:Int)=0) :
  Calls Tryz.prog 261 #[.pointer (some ⟨x,0,none⟩),.int .i64 (y:Int)] w fun e w'=>∃g cp,e=.returned (.tuple #[.slice (some ⟨g,0,none⟩) 512 cp,.int .i64 0])/\w.heap.size<=g/\Own w' g 512 cp ((L y).getD (jread d s y))/\Pl.isB ((L y).getD (jread d s y))/\(∃Z',Jq Z' w' j c p room nb (K+1) fr bl d s/\Gr Z Z' w/\¬Z' g)/\But Z w w':=by
 have x0:=hW.cell 0
 have x1:=hW.cell 1
 simp at x0 x1
 have hm:=hW.mp
 have hkey:keyOf Tryz.prog 3 (.int .i64 (y:Int))=some (.int .i64 (y:Int)):=Maps.keyOf_int_mk Tryz.underlying3 (WalkArith.wf_i64 (by omega))
 have hxl:=hW.lt
 cases ha:a y with
 | some r=>
  obtain⟨g,cp,mk⟩:=r
  obtain⟨zs,e1,e2,e3,e4,e5⟩:=hW.dat y g cp mk ha
  have hhas:=(hW.am.hit y (g,cp,mk) ha).1
  have hatk:=(hW.am.hit y (g,cp,mk) ha).2
  obtain⟨w1,hw1⟩:∃w1,w1=w.alloc (.cells #[.slice (some ⟨g,0,none⟩) 512 cp,.int .i64 mk] 142):=⟨_,rfl⟩
  have b1:Below w.heap.size w w1:=by rw[hw1];exact (Below.refl _ _).alloc (Nat.le_refl _) _
  have HCl:=hid (Clone_any ⟨g,0,none⟩ 512 cp zs w1 (by omega) ((e2.keep (b1.block g e2.lt)).rd e3))
  have HJ:=hid h
  have B1:=hid b1
  have HZ:=hid (And.intro e1 e3)
  have HW1:=hid hw1
  clear h hW e1 e2 e3 e4 e5 ha b1 hw1
  go_enter Tryz.func261,Tryz.ntmps261
  go_wp2_with (at_lookup;refine wpList_lookup_own_ok _ rfl _ _ 132 rfl 3 142 law3 Tryz.underlying132 wrElem (zero214 _) .nil [] rfl m n D rfl hm _ _ rfl hkey ?_;intro v ps hv;rw[hatk .nil]at hv;obtain rfl:=wrElem_inv hv;clear hv;rw[hhas])
  rw[<- HW1.out]
  refine Calls.mono HCl.out ?_
  rintro e w3 ⟨g3,cp3,rfl,hg3,ho3,b3⟩
  have FIN:Hid (w.heap.size<=g3/\Own w3 g3 512 cp3 ((L y).getD (jread d s y))/\Pl.isB ((L y).getD (jread d s y))/\(∃Z',Jq Z' w3 j c p room nb (K+1) fr bl d s/\Gr Z Z' w/\¬Z' g3)/\But Z w w3):=by
   rw[HZ.out.1]
   have b13:Below w.heap.size w w3:=B1.out.trans (b3.mono B1.out.size)
   have hs1:=B1.out.size
   exact⟨by omega,ho3,HZ.out.2,⟨_,Jq.mono (HJ.out.cut.below b13) (fun _ q=>q) (by omega),fun k _ q=>q.1,fun q=>by have:=q.2;omega⟩,But.of_below b13⟩
  clear hg3 ho3 b3 HCl hm
  go_wp2
  go_ret2
  exact⟨g3,cp3,rfl,FIN.out⟩
 | none=>
  have hLn:=hW.non y ha
  have hhas:Maps.has D (.int .i64 (y:Int))=false:=hW.am.miss (y:Int) (fun z e=>by
   have:z=y:=by omega
   rw[this];exact ha)
  obtain⟨w1,hw1⟩:∃w1,w1=w.alloc (.cells #[.slice none 0 0,.int .i64 0] 142):=⟨_,rfl⟩
  have b1:Below w.heap.size w w1:=by rw[hw1];exact (Below.refl _ _).alloc (Nat.le_refl _) _
  have x0':=(b1.cell (p:=⟨x,0,none⟩) hxl).trans x0
  have HR:=hid (Read_home (h.cut.below b1) h1 hon hl hK y hy hh)
  have hatn:∀z,D.atKey (.int .i64 (y:Int)) z=z:=fun z=>Maps.atKey_of_not_has hhas z
  have B1:=hid b1
  have HL:=hid hLn
  have HW1:=hid hw1
  clear h hW ha hLn b1
  rw[hw1]at x0'
  clear hw1
  go_enter Tryz.func261,Tryz.ntmps261
  go_wp2_with (first | (rw[readJ]) | (at_lookup;refine wpList_lookup_own_ok _ rfl _ _ 132 rfl 3 142 law3 Tryz.underlying132 wrElem (zero214 _) .nil [] rfl m n D rfl hm _ _ rfl hkey ?_;intro v ps hv;rw[hatn .nil]at hv;obtain rfl:=wrElem_nil hv;clear hv;rw[hhas]))
  rw[<- HW1.out]
  refine Calls.mono HR.out ?_
  rintro e w3 ⟨g3,cp3,rfl,hg3,ho3,hib,⟨Z3,hq3,hG3,hn3⟩,b3⟩
  have FIN:Hid (w.heap.size<=g3/\Own w3 g3 512 cp3 ((L y).getD (jread d s y))/\Pl.isB ((L y).getD (jread d s y))/\(∃Z',Jq Z' w3 j c p room nb (K+1) fr bl d s/\Gr Z Z' w/\¬Z' g3)/\But Z w w3):=by
   rw[HL.out]
   have hs1:=B1.out.size
   exact⟨by omega,ho3,hib,⟨Z3,hq3,fun k hk q=>(hG3 k (by omega) q).1,hn3⟩,(But.of_below B1.out).comp b3 (fun k _ q=>q.1)⟩
  clear hg3 ho3 hib hq3 hG3 hn3 b3 HR hm
  go_wp2
  go_ret2
  exact⟨g3,cp3,rfl,FIN.out⟩
theorem wread_far{room nb fr:Nat}{a:Nat->Option (Nat×Nat×Int)}(h:Jq Z w j c p room nb K fr bl d s)(hW:Wq Zw w x j m n nb fr bl D a sv mv L)(h1:fr+bl<=nb)(hon:d.off=false)(y:Int)(hy1:-9223372036854775808<=y)(hy2:y<=9223372036854775807)(hh:homeC nb fr bl y≠0) :
  Calls Tryz.prog 261 #[.pointer (some ⟨x,0,none⟩),.int .i64 y] w fun e w'=>e=.returned (.tuple #[.slice none 0 0,.int .i64 42])/\Below w.heap.size w w':=by
 have x0:=hW.cell 0
 have x1:=hW.cell 1
 simp at x0 x1
 have hm:=hW.mp
 have hkey:keyOf Tryz.prog 3 (.int .i64 y)=some (.int .i64 y):=Maps.keyOf_int_mk Tryz.underlying3 (WalkArith.wf_i64 (by omega))
 have hxl:=hW.lt
 have hhas:Maps.has D (.int .i64 y)=false:=hW.am.miss y (fun z e=>by
  cases ha:a z with
  | none=>rfl
  | some r=>
   obtain⟨g,cp,mk⟩:=r
   obtain⟨zs,_,_,_,e4,_⟩:=hW.dat z g cp mk ha
   rw[<- e]at hh
   exact absurd e4.2 hh)
 obtain⟨w1,hw1⟩:∃w1,w1=w.alloc (.cells #[.slice none 0 0,.int .i64 0] 142):=⟨_,rfl⟩
 have b1:Below w.heap.size w w1:=by rw[hw1];exact (Below.refl _ _).alloc (Nat.le_refl _) _
 have x0':=(b1.cell (p:=⟨x,0,none⟩) hxl).trans x0
 have hRf:=Read_far (h.below b1) h1 hon y hh
 rw[homeC_forty hh]at hRf
 have HR:=hid hRf
 have hatn:∀z,D.atKey (.int .i64 y) z=z:=fun z=>Maps.atKey_of_not_has hhas z
 have B1:=hid b1
 have HW1:=hid hw1
 clear h hW b1 hRf hh
 rw[hw1]at x0'
 clear hw1
 go_enter Tryz.func261,Tryz.ntmps261
 go_wp2_with (first | (rw[readJ]) | (at_lookup;refine wpList_lookup_own_ok _ rfl _ _ 132 rfl 3 142 law3 Tryz.underlying132 wrElem (zero214 _) .nil [] rfl m n D rfl hm _ _ rfl hkey ?_;intro v ps hv;rw[hatn .nil]at hv;obtain rfl:=wrElem_nil hv;clear hv;rw[hhas]))
 rw[<- HW1.out]
 refine Calls.mono HR.out ?_
 rintro e w3 ⟨rfl,b3⟩
 have FIN:=hid (B1.out.trans (b3.mono B1.out.size))
 clear b3 HR hm
 go_wp2
 go_ret2
 exact⟨rfl,FIN.out⟩
open Go.RowKit Go.Deep
def RdH (Z:Nat->Prop) (w:World) (j c p room nb K fr bl:Nat) (d:Pd) (s:Js) (zs:List Int) (e:Ending) (w':World):Prop :=
 ∃g cp,e=.returned (.tuple #[.slice (some ⟨g,0,none⟩) 512 cp,.int .i64 0])/\w.heap.size<=g/\Own w' g 512 cp zs/\Pl.isB zs/\(∃Z',Jq Z' w' j c p room nb (K+1) fr bl d s/\Gr Z Z' w/\¬Z' g)/\But Z w w'
theorem RdH.low{room nb fr:Nat}{e:Ending}(b:Below w.heap.size w w1)(h:RdH (fun k=>Z k/\k<w.heap.size) w1 j c p room nb K fr bl d s zs e w'):RdH Z w j c p room nb K fr bl d s zs e w':=by
 obtain⟨g,cp,e1,e2,e3,e4,⟨Z',e5,e6,e7⟩,e8⟩:=h
 have hs:=b.size
 exact⟨g,cp,e1,by omega,e3,e4,⟨Z',e5,fun k hk q=>(e6 k (by omega) q).1,e7⟩,(But.of_below b).comp e8 (fun k _ q=>q.1)⟩
theorem look_j{room nb fr:Nat}(h:Jq Z w j c p room nb K fr bl d s)(h1:fr+bl<=nb)(hon:d.off=false)(hl:d.puts.length<=1073741824)(hK:K<4611686018427387904)(y:Nat)(hy:y<nb)(hh:homeC nb fr bl (y:Int)=0)(hc:w.cell? ⟨b,1,none⟩=some (.iface 76 (.pointer (some ⟨j,0,none⟩)))) :
  Calls Tryz.prog 62 #[.pointer (some ⟨b,0,none⟩),.int .i64 (y:Int)] w (RdH Z w j c p room nb K fr bl d s (jread d s y)):=by
 refine poz fun PO hPO=>?_
 have HR:=hid (Read_home h h1 hon hl hK y hy hh)
 have HP:Hid (∀g cp w',(RdH Z w j c p room nb K fr bl d s (jread d s y) (.returned (.tuple #[.slice (some ⟨g,0,none⟩) 512 cp,.int .i64 0])) w')->PO (.returned (.tuple #[.slice (some ⟨g,0,none⟩) 512 cp,.int .i64 0])) w'):=fun g cp w' q=>by rw[hPO];exact q
 clear h hPO
 go_enter Tryz.func62,Tryz.ntmps62
 go_wp2_with (rw[readJ])
 refine Calls.mono HR.out ?_
 rintro e w3 ⟨g3,cp3,rfl,q⟩
 have FIN:=hid (HP.out g3 cp3 w3 ⟨g3,cp3,rfl,q⟩)
 clear q HR HP
 go_wp2
 exact FIN.out
theorem look_w{room nb fr:Nat}{a:Nat->Option (Nat×Nat×Int)}(h:Jq Z w j c p room nb K fr bl d s)(hW:Wq Zw w x j m n nb fr bl D a sv mv L)(h1:fr+bl<=nb)(hon:d.off=false)(hl:d.puts.length<=1073741824)(hK:K<4611686018427387904)(hnb:nb<=524288)(y:Nat)(hy:y<nb)(hh:homeC nb fr bl (y:Int)=0)(hc:w.cell? ⟨b,1,none⟩=some (.iface 83 (.pointer (some ⟨x,0,none⟩)))) :
  Calls Tryz.prog 62 #[.pointer (some ⟨b,0,none⟩),.int .i64 (y:Int)] w (RdH Z w j c p room nb K fr bl d s ((L y).getD (jread d s y))):=by
 refine poz fun PO hPO=>?_
 have HR:=hid (wread_home h hW h1 hon hl hK hnb y hy hh)
 have HP:Hid (∀g cp w',(RdH Z w j c p room nb K fr bl d s ((L y).getD (jread d s y)) (.returned (.tuple #[.slice (some ⟨g,0,none⟩) 512 cp,.int .i64 0])) w')->PO (.returned (.tuple #[.slice (some ⟨g,0,none⟩) 512 cp,.int .i64 0])) w'):=fun g cp w' q=>by rw[hPO];exact q
 clear h hW hPO
 go_enter Tryz.func62,Tryz.ntmps62
 go_wp2_with (rw[readW])
 refine Calls.mono HR.out ?_
 rintro e w3 ⟨g3,cp3,rfl,q⟩
 have FIN:=hid (HP.out g3 cp3 w3 ⟨g3,cp3,rfl,q⟩)
 clear q HR HP
 go_wp2
 exact FIN.out
theorem sread_home{room nb fr:Nat}(h:Jq Z w j c p room nb K fr bl d s)(h1:fr+bl<=nb)(hon:d.off=false)(hl:d.puts.length<=1073741824)(hK:K<4611686018427387904)(y:Nat)(hy:y<nb)(hh:homeC nb fr bl (y:Int)=0)(hs:Stb w st j tv) :
  Calls Tryz.prog 30 #[.pointer (some ⟨st,0,none⟩),.int .i64 (y:Int)] w (RdH Z w j c p room nb K fr bl d s (jread d s y)):=by
 refine poz fun PO hPO=>?_
 have HA:=hid (sask_any h hs)
 rw[hon]at HA
 have HL:Hid (∀w1,Below w.heap.size w w1->Calls Tryz.prog 62 #[.pointer (some ⟨st,0,none⟩),.int .i64 (y:Int)] w1 (RdH (fun k=>Z k/\k<w.heap.size) w1 j c p room nb K fr bl d s (jread d s y))):=fun w1 b1=>look_j (h.cut.below b1) h1 hon hl hK y hy hh ((b1.cell (p:=⟨st,1,none⟩) hs.lt).trans (hs.cell 1))
 have HP:Hid (∀w1 e w',Below w.heap.size w w1->RdH (fun k=>Z k/\k<w.heap.size) w1 j c p room nb K fr bl d s (jread d s y) e w'->PO e w'):=fun w1 e w' b q=>by rw[hPO];exact q.low b
 clear h hs hPO
 go_enter Tryz.func30,Tryz.ntmps30
 go_wp2_with fail
 refine Calls.mono HA.out ?_
 rintro e w1 ⟨rfl,b1⟩
 have HL1:=hid (HL.out w1 b1)
 have HP1:Hid (∀e w',RdH (fun k=>Z k/\k<w.heap.size) w1 j c p room nb K fr bl d s (jread d s y) e w'->PO e w'):=fun e w' q=>HP.out w1 e w' b1 q
 clear b1 HA HL HP
 go_wp2_with fail
 refine Calls.mono HL1.out ?_
 rintro e w3 q
 obtain⟨g3,cp3,rfl,_⟩:=id q
 have FIN:=hid (HP1.out _ w3 q)
 clear q HL1 HP1
 go_wp2
 exact FIN.out
theorem tread_home{room nb fr:Nat}{a:Nat->Option (Nat×Nat×Int)}(h:Jq Z w j c p room nb K fr bl d s)(hW:Wq Zw w x j m n nb fr bl D a sv mv L)(h1:fr+bl<=nb)(hon:d.off=false)(hl:d.puts.length<=1073741824)(hK:K<4611686018427387904)(hnb:nb<=524288)(y:Nat)(hy:y<nb)(hh:homeC nb fr bl (y:Int)=0)(ht:Txb w t j (.iface 83 (.pointer (some ⟨x,0,none⟩))) st (.pointer (some ⟨x,0,none⟩)))(hs:Stb w st j (.pointer (some ⟨t,0,none⟩))) :
  Calls Tryz.prog 47 #[.pointer (some ⟨t,0,none⟩),.int .i64 (y:Int)] w (RdH Z w j c p room nb K fr bl d s ((L y).getD (jread d s y))):=by
 refine poz fun PO hPO=>?_
 have HA:=hid (task_open h hon ht hs)
 have HL:Hid (∀w1,Below w.heap.size w w1->Calls Tryz.prog 62 #[.pointer (some ⟨t,0,none⟩),.int .i64 (y:Int)] w1 (RdH (fun k=>Z k/\k<w.heap.size) w1 j c p room nb K fr bl d s ((L y).getD (jread d s y)))):=fun w1 b1=>look_w (h.cut.below b1) (hW.keep (fun k _ hk=>b1.block k hk)) h1 hon hl hK hnb y hy hh ((b1.cell (p:=⟨t,1,none⟩) ht.lt).trans (ht.cell 1))
 have HP:Hid (∀w1 e w',Below w.heap.size w w1->RdH (fun k=>Z k/\k<w.heap.size) w1 j c p room nb K fr bl d s ((L y).getD (jread d s y)) e w'->PO e w'):=fun w1 e w' b q=>by rw[hPO];exact q.low b
 clear h hs ht hW hPO
 go_enter Tryz.func47,Tryz.ntmps47
 go_wp2_with fail
 refine Calls.mono HA.out ?_
 rintro e w1 ⟨rfl,b1⟩
 have HL1:=hid (HL.out w1 b1)
 have HP1:Hid (∀e w',RdH (fun k=>Z k/\k<w.heap.size) w1 j c p room nb K fr bl d s ((L y).getD (jread d s y)) e w'->PO e w'):=fun e w' q=>HP.out w1 e w' b1 q
 clear b1 HA HL HP
 go_wp2_with fail
 refine Calls.mono HL1.out ?_
 rintro e w3 q
 obtain⟨g3,cp3,rfl,_⟩:=id q
 have FIN:=hid (HP1.out _ w3 q)
 clear q HL1 HP1
 go_wp2
 exact FIN.out
end Go.Proofs.YtlefjidbpjkhlaaGreat
