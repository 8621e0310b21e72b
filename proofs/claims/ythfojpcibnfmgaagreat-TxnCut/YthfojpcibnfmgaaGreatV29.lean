import Derived.Test.YthfojpcibnfmgaaGreatV28
import Derived.Test.YthfojpcibnfmgaaGreatV23
import Derived.Laws.MakeOwn
import Derived.Maps.OwnSet
set_option maxRecDepth 100000
set_option maxHeartbeats 16000000
namespace Go.Proofs.YthfojpcibnfmgaaGreat
variable {K b bl cp fr j k lo m n nb p q x y:Nat}
variable {d:Pd}
variable {Ts ts:List Tn}
variable {cs:List Cmd}
variable {fu:Int}
variable {Z Zw:Nat->Prop}
variable {w w':World}
variable {D:DataW (Nat×Nat×Int)}
variable {mv sv:Value}
open Go.RowKit
def contT (home:Nat->List Int) (Ts:List Tn) (k x:Nat):List Int:=after home (Ts.take k) x
theorem G.congr{P:Nat->List Int->Prop}{hi:Nat}{cont cont':Nat->Nat->List Int}(h:G P nb fr bl lo hi cont)(hc:∀k x,k<=hi->cont k x=cont' k x):G P nb fr bl lo hi cont':=fun v hv=>by
 obtain⟨l,q,base,ts,ex,k,e1,e2,e3⟩:=h v hv
 exact⟨l,q,base,ts,ex,k,e1,e2,fun n n1 n2=>⟨(e3 n n1 n2).1,(e3 n n1 n2).2.1,fun x hx=>by rw[(e3 n n1 n2).2.2 x hx,hc _ _ (e3 n n1 n2).2.1]⟩⟩
theorem Nm.congr{s:Js}{base:Nat->List Int}{hi:Nat}{cont cont':Nat->Nat->List Int}(h:Nm d s nb fr bl q base ts k lo hi cont)(hc:∀k x,k<=hi->cont k x=cont' k x):Nm d s nb fr bl q base ts k lo hi cont' :=
 ⟨⟨h.sole.hd,h.sole.head,fun n n1 n2=>⟨(h.sole.cont n n1 n2).1,(h.sole.cont n n1 n2).2.1,fun x hx=>by rw[(h.sole.cont n n1 n2).2.2 x hx,hc _ _ (h.sole.cont n n1 n2).2.1]⟩⟩,h.rd,h.pl,h.l0,h.used,h.seq,h.ah⟩
theorem contT_more(home:Nat->List Int)(Ts us:List Tn)(hk:k<=Ts.length)(x:Nat):contT home Ts k x=contT home (Ts++us) k x:=by
 unfold contT
 rw[List.take_append_of_le_length hk]
theorem contT_take(home:Nat->List Int)(Ts:List Tn)(hk:k<=n)(x:Nat):contT home Ts k x=contT home (Ts.take n) k x:=by
 unfold contT
 rw[List.take_take,Nat.min_eq_left hk]
structure On (d:Pd) (s:Js) (nb fr bl lo:Nat) (home:Nat->List Int) (Ts:List Tn):Prop where
 nm:∃q base ts k,Nm d s nb fr bl q base ts k lo s.seq (contT home Ts)
 on:d.off=false
 sq:s.seq=Ts.length
 pl:d.puts.length<=s.used
structure Cut (d:Pd) (nb fr bl lo:Nat) (home:Nat->List Int) (Ts:List Tn):Prop where
 g:G d.poss nb fr bl lo Ts.length (contT home Ts)
 pl:d.puts.length<=4 * nb+64
theorem On.jn{s:Js}{home:Nat->List Int}(h:On d s nb fr bl lo home Ts)(hlo:16<=bl)(hfit:fr+bl<=nb)(hnb:nb<=524288):Jn nb fr bl s:=by
 obtain⟨q,base,ts,k,hn⟩:=h.nm
 exact hn.jn hlo hfit hnb
theorem On.puts{s:Js}{home:Nat->List Int}(h:On d s nb fr bl lo home Ts)(hlo:16<=bl)(hfit:fr+bl<=nb)(hnb:nb<=524288):d.puts.length<=nb:=by
 have:=(h.jn hlo hfit hnb).used
 have:=h.pl
 omega
theorem On.cut{s:Js}{home:Nat->List Int}(h:On d s nb fr bl lo home Ts)(hlo:16<=bl)(hfit:fr+bl<=nb)(hnb:nb<=524288):Cut d nb fr bl lo home Ts:=by
 have hp:=h.puts hlo hfit hnb
 obtain⟨q,base,ts,k,hn⟩:=h.nm
 refine⟨?_,by omega⟩
 have:=hn.g
 rwa [h.sq]at this
theorem On.read{s:Js}{home:Nat->List Int}(h:On d s nb fr bl lo home Ts)(hx:HomeB nb fr bl x):jread d s x=contT home Ts Ts.length x:=by
 obtain⟨q,base,ts,k,hn⟩:=h.nm
 rw[hn.read hx,h.sq]
theorem Pd.runs_fl_puts{xs:List Cmd}(h:(d.runs (xs++[.fl])).1=0):(d.runs (xs++[.fl])).2.puts=[]:=by
 rw[Pd.runs_append]at h ⊢
 by_cases hc:(d.runs xs).1=0
 ·rw[if_pos hc]at h ⊢
  rw[Pd.runs_one]at h ⊢
  rw[Pd.fl_ok h]
 ·rw[if_neg hc]at h
  exact absurd h hc
theorem Pd.runs_off(h:(d.runs cs).1≠0):(d.runs cs).1=24/\(d.runs cs).2.off=true:=by
 rcases d.runs_code cs with ⟨h1,_⟩ | ⟨h1,h2⟩
 ·exact absurd h1 h
 ·exact⟨h1,h2⟩
theorem Pd.runs_on(hon:d.off=false)(h:(d.runs cs).1=0):(d.runs cs).2.off=false:=by
 rcases d.runs_code cs with ⟨_,h2⟩ | ⟨h1,_⟩
 ·exact h2 hon
 ·rw[h]at h1;cases h1
theorem length_settleCmds(nb fr bl:Nat)(s:Js):(settleCmds nb fr bl s).length<=nb+bl+8:=by
 have h1:=length_homeCmds nb s.ah
 have h2:=length_goCmds fr bl s
 unfold settleCmds
 simp only[List.length_append,List.length_cons,List.length_nil]
 omega
theorem On.flush{s:Js}{home:Nat->List Int}(h:On d s nb fr bl lo home Ts)(hf:d.Fits nb)(hlo:16<=bl)(hfit:fr+bl<=nb)(hnb:nb<=524288) :
  ((d.runs [.fl]).1=0->On (d.runs [.fl]).2 s nb fr bl Ts.length home Ts)/\((d.runs [.fl]).1≠0->Cut (d.runs [.fl]).2 nb fr bl lo home Ts):=by
 have hp:=h.puts hlo hfit hnb
 obtain⟨q,base,ts,k,hn⟩:=h.nm
 obtain⟨g1,g2⟩:=hn.flush hf
 refine⟨fun hc=>⟨⟨q,base,ts,ts.length,?_⟩,Pd.runs_on h.on hc,h.sq,?_⟩,fun hc=>⟨?_,?_⟩⟩
 ·have:=(g2 hc).2
  rw[h.sq]at this ⊢
  exact this
 ·have e:(d.runs [.fl]).2.puts=[]:=Pd.runs_fl_puts (xs:=[]) hc
  rw[e]
  exact Nat.zero_le _
 ·rwa [h.sq]at g1
 ·have:=d.runs_puts [.fl]
  simp only[List.length_cons,List.length_nil]at this
  omega
theorem On.settle{s:Js}{home:Nat->List Int}(h:On d s nb fr bl lo home Ts)(hf:d.Fits nb)(hlo:16<=bl)(hfit:fr+bl<=nb)(hnb:nb<=524288) :
  ((d.runs (settleCmds nb fr bl s)).1=0->On (d.runs (settleCmds nb fr bl s)).2 (goS s) nb fr bl Ts.length home Ts/\(d.runs (settleCmds nb fr bl s)).2.puts=[]/\∀x,HomeB nb fr bl x->imgB (d.runs (settleCmds nb fr bl s)).2.img x=contT home Ts Ts.length x)/\((d.runs (settleCmds nb fr bl s)).1≠0->Cut (d.runs (settleCmds nb fr bl s)).2 nb fr bl lo home Ts):=by
 have hp:=h.puts hlo hfit hnb
 obtain⟨q,base,ts,k,hn⟩:=h.nm
 obtain⟨g1,g2⟩:=hn.settle hf hfit (by omega)
 refine⟨fun hc=>?_,fun hc=>⟨?_,?_⟩⟩
 ·have hpe:(d.runs (settleCmds nb fr bl s)).2.puts=[]:=by
   have:settleCmds nb fr bl s=([.fl]++homeCmds nb s.ah++[.fl]++goCmds fr bl s)++[.fl]:=rfl
   rw[this]at hc ⊢
   exact Pd.runs_fl_puts hc
  have k2:=(g2 hc).2
  refine⟨⟨⟨s.seq,after base ts,[],0,?_⟩,Pd.runs_on h.on hc,?_,?_⟩,hpe,fun x hx=>?_⟩
  ·rw[goS_seq]
   rw[h.sq]at k2 ⊢
   exact k2
  ·rw[goS_seq];exact h.sq
  ·rw[hpe];exact Nat.zero_le _
  ·rw[k2.pl x hx _ (.inl rfl),hn.c2.2.2 x hx,h.sq]
 ·rwa [h.sq]at g1
 ·have:=d.runs_puts (settleCmds nb fr bl s)
  have:=length_settleCmds nb fr bl s
  omega
theorem On.append{s:Js}{home:Nat->List Int}(h:On d s nb fr bl lo home Ts)(hf:d.Fits nb)(hlo:16<=bl)(hfit:fr+bl<=nb)(hnb:nb<=524288){ps:List Pm}(hb:∀p∈ps,Pl.isB p.data)(hc0:appC nb fr bl d s ps=0) :
  ((d.runs (wlCmds nb fr bl s (appRecs ps))).1=0->On (d.runs (wlCmds nb fr bl s (appRecs ps))).2 (appE bl s ps) nb fr bl lo home (Ts++[ps.map Pm.put]))/\((d.runs (wlCmds nb fr bl s (appRecs ps))).1≠0->Cut (d.runs (wlCmds nb fr bl s (appRecs ps))).2 nb fr bl lo home (Ts++[ps.map Pm.put])):=by
 have hp:=h.puts hlo hfit hnb
 have hj:=h.jn hlo hfit hnb
 obtain⟨q,base,ts,k,hn⟩:=h.nm
 unfold appC at hc0
 rw[h.on,if_neg (by decide)]at hc0
 have hz:putsC nb fr bl ps=0:=Classical.byContradiction fun q=>by rw[if_pos q]at hc0;exact q hc0
 rw[if_neg (fun q=>q hz)]at hc0
 have hk:¬bl / 2-4<(standP ps).length:=fun q=>by rw[if_pos q]at hc0;cases hc0
 rw[if_neg hk]at hc0
 have hsq:¬1099511627776<=s.seq:=fun q=>by rw[if_pos q]at hc0;cases hc0
 have hps:∀p∈ps,putC nb fr bl p.at_ p.data.length=0:=by
  clear hc0 hk hb
  induction ps with
  | nil=>intro p hp;cases hp
  | cons a ps ih=>
   unfold putsC at hz
   have ha:putC nb fr bl a.at_ a.data.length=0:=Classical.byContradiction fun q=>by rw[if_pos q]at hz;exact q hz
   rw[if_neg (fun q=>q ha)]at hz
   intro p hp
   rcases List.mem_cons.1 hp with rfl | hp
   ·exact ha
   ·exact ih hz p hp
 have hcn:∀k x,k<=s.seq->contT home Ts k x=contT home (Ts++[ps.map Pm.put]) k x:=fun k x hk=>contT_more home Ts _ (by rw[<- h.sq];exact hk) x
 have hn2:=hn.congr hcn
 obtain⟨g1,g2⟩:=hn2.appendP hf hfit hlo (ps:=ps) (fun p hp=>⟨hps p hp,hb p hp⟩) (by omega) (by omega) (fun x hx=>by
  have h1:=hn.c2.2.2 x hx
  rw[<- after_append]
  unfold contT
  rw[h.sq,List.take_of_length_le (by simp)]
  rw[<- after_append]
  unfold after
  cases hq:aheadP (fun _=>none) [List.map Pm.put ps].flatten x with
  | some z=>rfl
  | none=>
   show after base ts x=after home Ts x
   rw[h1]
   unfold contT
   rw[h.sq,List.take_length])
 have hlr:(appRecs ps).length+1<=bl:=by
  have:(appRecs ps).length=pieceN (515 * (standP ps).length)+1:=by
   unfold appRecs
   rw[length_recsZ,length_bytesZ]
   ·simp
   ·intro x hx
    obtain⟨p,hp,rfl⟩:=List.mem_map.1 hx
    exact (putC_zero (hps p (standP_mem hp))).1
  have:=recs_fit hlo (k:=(standP ps).length) (by omega)
  omega
 have hlen:(wlCmds nb fr bl s (appRecs ps)).length<=nb+bl+8+bl:=by
  have h1:=length_settleCmds nb fr bl s
  unfold wlCmds
  rw[List.length_append,length_recCmds]
  split
  ·omega
  ·simp only[List.length_nil];omega
 refine⟨fun hc=>⟨?_,Pd.runs_on h.on hc,?_,?_⟩,fun hc=>⟨?_,?_⟩⟩
 ·obtain⟨q',base',ts',k',hm⟩:=(g2 hc).2
  rw[<- appE_seq bl s ps]at hm
  exact⟨q',base',ts',k',hm⟩
 ·rw[appE_seq,h.sq];simp
 ·show _<=(wlE bl s (appRecs ps).length).used
  unfold wlE wlS
  unfold wlCmds at hc ⊢
  by_cases hu:bl-1<s.used+(appRecs ps).length
  ·rw[if_pos hu]at hc ⊢
   simp only[wlS,if_pos hu]at hc ⊢
   rw[Pd.runs_append]at hc ⊢
   by_cases hs:(d.runs (settleCmds nb fr bl s)).1=0
   ·rw[if_pos hs]at hc ⊢
    have hpe:(d.runs (settleCmds nb fr bl s)).2.puts=[]:=by
     have:settleCmds nb fr bl s=([.fl]++homeCmds nb s.ah++[.fl]++goCmds fr bl s)++[.fl]:=rfl
     rw[this]at hs ⊢
     exact Pd.runs_fl_puts hs
    have:=(d.runs (settleCmds nb fr bl s)).2.runs_puts (recCmds (fr+1+(goS s).used) (goS s).life (appRecs ps))
    rw[hpe,length_recCmds]at this
    simp only[List.length_nil]at this
    omega
   ·rw[if_neg hs]at hc
    exact absurd hc hs
  ·rw[if_neg hu]at hc ⊢
   simp only[wlS,if_neg hu,List.nil_append]at hc ⊢
   have:=d.runs_puts (recCmds (fr+1+s.used) s.life (appRecs ps))
   rw[length_recCmds]at this
   have:=h.pl
   omega
 ·rw[h.sq]at g1
  have e:(Ts++[ps.map Pm.put]).length=Ts.length+1:=by simp
  rw[e]
  exact g1
 ·have:=d.runs_puts (wlCmds nb fr bl s (appRecs ps))
  omega
open Go.RowKit
theorem Cut.open{home:Nat->List Int}(h:Cut d nb fr bl lo home Ts)(hlo:16<=bl)(hfit:fr+bl<=nb)(hnb:nb<=524288){I:List Int}(hI:∀x,x<nb->d.poss x (imgB I x))(hf:(⟨I,[],fu,false⟩:Pd).Fits nb) :
  ∃l q,headAt fr bl ((⟨I,[],fu,false⟩:Pd).read fr)=some (l,q)/\NoOther fr bl (openS nb fr bl ⟨I,[],fu,false⟩ l q) ⟨I,[],fu,false⟩/\∃n,lo<=n/\n<=Ts.length /\
   ((((⟨I,[],fu,false⟩:Pd).runs (settleCmds nb fr bl (openS nb fr bl ⟨I,[],fu,false⟩ l q))).1=0->On ((⟨I,[],fu,false⟩:Pd).runs (settleCmds nb fr bl (openS nb fr bl ⟨I,[],fu,false⟩ l q))).2 (goS (openS nb fr bl ⟨I,[],fu,false⟩ l q)) nb fr bl n home (Ts.take n)) /\
   (((⟨I,[],fu,false⟩:Pd).runs (settleCmds nb fr bl (openS nb fr bl ⟨I,[],fu,false⟩ l q))).1≠0->Cut ((⟨I,[],fu,false⟩:Pd).runs (settleCmds nb fr bl (openS nb fr bl ⟨I,[],fu,false⟩ l q))).2 nb fr bl n home (Ts.take n))):=by
 obtain⟨l,q,h1,h2,h3,h4,h5,h6⟩:=h.g.open hnb hfit (by omega) hI hf
 generalize hn:(openS nb fr bl ⟨I,[],fu,false⟩ l q).seq=n at h3 h4 h5 h6
 have e:(Ts.take n).length=n:=by rw[List.length_take];omega
 have hcn:∀k x,k<=n->contT home Ts k x=contT home (Ts.take n) k x:=fun k x hk=>contT_take home Ts hk x
 refine⟨l,q,h1,h2,n,h3,h4,fun hc=>?_,fun hc=>⟨?_,?_⟩⟩
 ·obtain⟨_,base',hm⟩:=h6 hc
  have hpe:((⟨I,[],fu,false⟩:Pd).runs (settleCmds nb fr bl (openS nb fr bl ⟨I,[],fu,false⟩ l q))).2.puts=[]:=by
   have:settleCmds nb fr bl (openS nb fr bl ⟨I,[],fu,false⟩ l q)=([.fl]++homeCmds nb (openS nb fr bl ⟨I,[],fu,false⟩ l q).ah++[.fl]++goCmds fr bl (openS nb fr bl ⟨I,[],fu,false⟩ l q))++[.fl]:=rfl
   rw[this]at hc ⊢
   exact Pd.runs_fl_puts hc
  refine⟨⟨n,base',[],0,?_⟩,Pd.runs_on rfl hc,?_,?_⟩
  ·rw[goS_seq,hn]
   exact hm.congr hcn
  ·rw[goS_seq,hn,e]
  ·rw[hpe];exact Nat.zero_le _
 ·rw[e]
  exact h5.congr hcn
 ·have h7:=(⟨I,[],fu,false⟩:Pd).runs_puts (settleCmds nb fr bl (openS nb fr bl ⟨I,[],fu,false⟩ l q))
  have h8:=length_settleCmds nb fr bl (openS nb fr bl ⟨I,[],fu,false⟩ l q)
  have h9:(⟨I,[],fu,false⟩:Pd).puts.length=0:=rfl
  omega
def Opened (Z:Nat->Prop) (w:World) (c p room nb K f b:Nat) (fu:Int) (lo:Nat) (home:Nat->List Int) (Ts:List Tn) (e:Ending) (w':World):Prop :=
 But Z w w'/\∃jv code,e=.returned (.tuple #[.pointer jv,.int .i64 code])/\∃n Z' d',lo<=n/\n<=Ts.length/\Gr Z Z' w /\
  ((code=24/\fu≠-1/\jv=none/\Cq Z' w' c p room nb K d'/\d'.off=true/\Cut d' nb f b n home (Ts.take n)) \/
  (code=0/\∃j s,jv=some ⟨j,0,none⟩/\w.heap.size<=j/\Jq Z' w' j c p room nb K f b d' s/\On d' s nb f b n home (Ts.take n)))
theorem placeC_ok{f:Nat}(hlo:16<=b)(hfit:f+b<=nb)(hnb:nb<=524288):placeC nb (f:Int) (b:Int)=0:=by
 unfold placeC
 rw[if_neg (by omega),if_neg (by omega)]
theorem OpenP.cut{c room f:Nat}{home:Nat->List Int}{I:List Int}{e:Ending}(H:OpenP Z w c p room nb K ⟨I,[],fu,false⟩ (f:Int) (b:Int) e w')(h:Cut d nb f b lo home Ts)(hlo:16<=b)(hfit:f+b<=nb)(hnb:nb<=524288)(hI:∀x,x<nb->d.poss x (imgB I x))(hf:(⟨I,[],fu,false⟩:Pd).Fits nb) :
  Opened Z w c p room nb K f b fu lo home Ts e w':=by
 obtain⟨l,q,h1,h2,n,h3,h4,h5,h6⟩:=h.open hlo hfit hnb hI hf
 obtain⟨b1,jv,code,rfl,k⟩:=H
 have hlc:layC ⟨I,[],fu,false⟩ nb (f:Int) (b:Int)=0:=by
  unfold layC
  rw[if_neg (by simp)]
  exact placeC_ok hlo hfit hnb
 refine⟨b1,jv,code,rfl,n,?_⟩
 rcases k with ⟨k1,_⟩ | ⟨_,f',b',ef,eb,_,_,k⟩
 ·exact absurd hlc k1
 ·have ef':f'=f:=by omega
  have eb':b'=b:=by omega
  subst ef' eb'
  rcases k with ⟨_,_,k | ⟨l',q',k1,k2⟩,_⟩ | ⟨l',q',k1,k2,k3,Z',k4,k5⟩
  ·rw[h1]at k;cases k
  ·rw[h1]at k1
   cases k1
   exact absurd h2 k2
  ·rw[h1]at k1
   cases k1
   refine⟨Z',((⟨I,[],fu,false⟩:Pd).runs (settleCmds nb f' b' (openS nb f' b' ⟨I,[],fu,false⟩ l q))).2,h3,h4,k4,?_⟩
   rcases k5 with ⟨k6,k7,k8⟩ | ⟨k6,j,k7,k8,k9⟩
   ·rw[k3]at k6
    have ho:=Pd.runs_off k6
    refine .inl ⟨k3.trans ho.1,fun hfu=>?_,k7,k8,ho.2,h6 k6⟩
    exact k6 (Pd.runs_free (d:=⟨I,[],fu,false⟩) rfl hfu _).1
   ·exact .inr ⟨k6,j,_,k7,k8,k9,h5 (k3 ▸ k6)⟩
theorem format_on{f:Nat}(hlo:16<=b)(hfit:f+b<=nb)(hf:d.Fits nb)(hon:d.off=false)(hc:(d.runs (formatCmds f b)).1=0):On (d.runs (formatCmds f b)).2 (beginS noS) nb f b 0 d.read []:=by
 obtain⟨_,hm⟩:=format_nm (cont:=contT d.read []) hfit (by omega) hf (fun x _=>rfl) hc
 refine⟨⟨0,d.read,[],0,hm⟩,Pd.runs_on hon hc,rfl,?_⟩
 have:formatCmds f b=(wipes f b f 1++[.fl]++wipes f b (f+1) (b-1)++[.fl]++[.wr f (headZ f b (noS.life+1) noS.seq)])++[.fl]:=rfl
 rw[this]at hc ⊢
 rw[Pd.runs_fl_puts hc]
 exact Nat.zero_le _
open Go.RowKit
open Go.RowKit
open Go.RowKit
open Go.RowKit
def Pm.say (p:Pm):Int×List Int:=(p.at_,p.data)
open Go.RowKit Go.Deep Go.Maps Go.Sort Go.Shelf
theorem Wq.has_iff{a:Nat->Option (Nat×Nat×Int)}{L:Nat->Option (List Int)}(h:Wq Z w x j m n nb fr bl D a sv mv L)(z:Int):z∈(homeKeys nb L).map Int.ofNat ↔ Maps.has D (.int .i64 z)=true:=by
 constructor
 ·intro hx
  obtain⟨y,hy,rfl⟩:=List.mem_map.1 hx
  obtain⟨h1,h2⟩:=mem_homeKeys.1 hy
  cases ha:a y with
  | none=>rw[h.non y ha]at h2;cases h2
  | some q=>exact (h.am.hit y q ha).1
 ·intro hx
  by_cases hq:∃y:Nat,(y:Int)=z/\a y≠none
  ·obtain⟨y,rfl,hy⟩:=hq
   cases ha:a y with
   | none=>exact absurd ha hy
   | some q=>
    obtain⟨zs,h1,_,_,h4,_⟩:=h.dat y q.1 q.2.1 q.2.2 ha
    exact List.mem_map.2 ⟨y,mem_homeKeys.2 ⟨h4.1,by rw[h1];rfl⟩,rfl⟩
  ·rw[h.am.miss z (fun y e=>Classical.byContradiction fun q=>hq ⟨y,e,q⟩)]at hx
   cases hx
theorem Wq.sorted{a:Nat->Option (Nat×Nat×Int)}{L:Nat->Option (List Int)}(h:Wq Z w x j m n nb fr bl D a sv mv L){ss:List Int}(hp:ss.Perm (intKeys D)):ss.mergeSort (fun x y=>decide (x<=y))=(homeKeys nb L).map Int.ofNat/\ss.length=(homeKeys nb L).length:=by
 have hc:CollectedI D (fun _=>false) ((homeKeys nb L).map Int.ofNat):=⟨nodup_homeKeys _ _,fun z=>by rw[h.has_iff z];simp⟩
 have hq:=hc.perm h.mp law3 Tryz.underlying3 (fun _=>rfl)
 have hr:=hp.trans hq.symm
 refine⟨?_,by rw[hr.length_eq];simp⟩
 rw[mergeSort_of_perm_i hr]
 refine List.mergeSort_of_pairwise (List.pairwise_map.2 ?_)
 refine List.Pairwise.imp (fun {x y} q=>?_) (List.Pairwise.filter _ List.pairwise_lt_range)
 show decide (Int.ofNat x<=Int.ofNat y)=true
 simp only[decide_eq_true_eq]
 exact Int.ofNat_le.2 (Nat.le_of_lt q)
theorem Wq.look{a:Nat->Option (Nat×Nat×Int)}{L:Nat->Option (List Int)}(h:Wq Z w x j m n nb fr bl D a sv mv L){g:Nat}{mk:Int}(hx:y<524288)(ha:a y=some (g,cp,mk)):(Instr.lookup 157 (.map (some m)) (.int .i64 (y:Int)) false).run Tryz.prog w=.ok (.agg #[.slice (some ⟨g,0,none⟩) 512 cp,.int .i64 mk]) w:=by
 obtain⟨v,ps,h1,h2⟩:=h.mp.lookup law3 Tryz.underlying157 (zero214 w) (zd:=.nil) (zp:=[]) rfl (keyOf3 (wf_small (x:=(y:Int)) (by omega) (by omega)))
 rw[(h.am.hit y (g,cp,mk) ha).2]at h2
 rw[wrElem_inv h2]at h1
 exact h1
theorem fld214(a:Option Addr)(n c:Nat)(k:Int)(w:World):(Instr.field 167 (.agg #[.slice a n c,.int .i64 k]) 0).run Tryz.prog w=.ok (.slice a n c) w:=by
 unfold Instr.field
 simp[run_underlying Tryz.underlying167,go_sem,part,asAgg]
def PutOf (Zw:Nat->Prop) (w:World) (p:Pm):Prop:=∃g,p.ad=some ⟨g,0,none⟩/\Zw g/\Own w g 512 p.cap p.data/\Pl.isB p.data/\p.data.length=512
theorem puts_any{a:Nat->Option (Nat×Nat×Int)}{L:Nat->Option (List Int)}(hW:Wq Zw w x j m n nb fr bl D a sv mv L)(hnb:nb<=524288) :
  Calls Tryz.prog 68 #[.pointer (some ⟨x,0,none⟩)] w fun e w'=>∃g cp qs,e=.returned (.slice (some ⟨g,0,none⟩) (homeKeys nb L).length cp)/\w.heap.size<=g/\g<w'.heap.size/\qs.map Pm.say=(homeKeys nb L).map (fun (y:Nat)=>((y:Int),(L y).getD []))/\w'.ownsRow w.heap.size 184 2 (.slice (some ⟨g,0,none⟩) (homeKeys nb L).length cp) (homeKeys nb L).length (pmCells qs)/\(∀p∈qs,PutOf Zw w p)/\Below w.heap.size w w':=by
 obtain⟨i68,hi68,hz68,hs68,hb68⟩:=info_parts info68
 have hsz:Maps.size D<=524288:=by
  have:=hW.am.cnt
  have:=cntX_le a nb
  omega
 have hln:=hW.mp.len (P:=Tryz.prog) Tryz.underlying157 3
 obtain⟨w0,hmk,hrow0,hgr0⟩:=run_make_own (P:=Tryz.prog) w w.heap.size 129 184 i68 (.agg #[.int .i64 0,.slice none 0 0]) 2 Tryz.underlying129 hi68 hz68 hs68 .i64 .i64 (Maps.size D) (by rw[hb68];omega) (by unfold maxLen;omega) (Nat.le_refl _)
 have k1:=hW.cell 1
 simp at k1
 have b0:Below w.heap.size w w0:=((But.refl (fun _=>False) w).of_grown hgr0 (fun x e _=>by cases e)).below (Nat.le_refl _) (fun _ _ q=>q)
 have HWb:Hid (∀w',Below w.heap.size w w'->w'.cell? ⟨x,1,none⟩=some (.map (some m))/\∀y g cp k,y<nb->a y=some (g,cp,k)->(Instr.lookup 157 (.map (some m)) (.int .i64 (y:Int)) false).run Tryz.prog w'=.ok (.agg #[.slice (some ⟨g,0,none⟩) 512 cp,.int .i64 k]) w'):=fun w' b=>by
  have h':=hW.keep (w':=w') (fun k _ hk=>b.block k hk)
  exact⟨by have:=h'.cell 1;simpa using this,fun y g cp k hy ha=>h'.look (by omega) ha⟩
 have HK:=hid (keysB_any (some m) w0)
 have HS:=hid (sortedB_any m n D wrElem w0 (mapW_keep hW.mp (b0.block m hW.mp.lt)) (by unfold maxLen;omega) (by omega))
 have HSo:Hid (∀ss:List Int,ss.Perm (intKeys D)->ss.mergeSort (fun x y=>decide (x<=y))=(homeKeys nb L).map Int.ofNat/\ss.length=(homeKeys nb L).length):=fun ss hp=>hW.sorted hp
 have HD:Hid (∀y,y∈homeKeys nb L->∃g cp mk zs,y<nb/\a y=some (g,cp,mk)/\L y=some zs/\Zw g/\Own w g 512 cp zs/\Pl.isB zs):=fun y hy=>by
  obtain⟨h1,h2⟩:=mem_homeKeys.1 hy
  cases ha:a y with
  | none=>rw[hW.non y ha]at h2;cases h2
  | some q=>
   obtain⟨zs,e1,e2,e3,e4,e5⟩:=hW.dat y q.1 q.2.1 q.2.2 ha
   exact⟨q.1,q.2.1,q.2.2,zs,e4.1,rfl,e1,e5,e2,e3⟩
 have hlt0:=World.ownsRow.lt hrow0 w.heap.size rfl
 have H0:=hid (And.intro hrow0 (And.intro b0 hlt0.2))
 have k1':w0.cell? ⟨x,1,none⟩=some (.map (some m)):=(b0.cell (p:=⟨x,1,none⟩) hW.lt).trans k1
 clear hW hrow0 hgr0 b0 hlt0
 go_enter Tryz.func68,Tryz.ntmps68
 go_wp2_with fail
 refine Calls.mono HK.out ?_
 rintro e w1 ⟨rfl,rfl⟩
 go_wp2_with fail
 refine Calls.mono HS.out ?_
 rintro e w1 ⟨v,ss,rfl,hperm,hrow,_,b1⟩
 obtain⟨hsr,hln2⟩:=HSo.out ss hperm
 rw[hsr]at hrow
 rw[hln2]at hrow
 obtain⟨av,cv,rfl,_⟩:=owns_slice hrow
 have hkl:=length_homeKeys nb L
 have HR:Hid (∀(i y:Nat),(homeKeys nb L)[i]?=some y->∃gk,av=some ⟨gk,0,none⟩/\w0.heap.size<=gk/\gk<w1.heap.size/\w1.cell? ⟨gk,i,none⟩=some (.int .i64 (y:Int))):=fun i y hx=>by
  have hi:i<(homeKeys nb L).length:=(List.getElem?_eq_some_iff.1 hx).1
  rcases hrow.2 with ⟨_,q⟩ | ⟨gk,cap,cur,q1,q2,_⟩
  ·omega
  ·simp at q1
   have hlt:=(World.ownsRow.lt hrow gk (by rw[q1.1];rfl)).2
   refine⟨gk,q1.1,q2,hlt,?_⟩
   have hcell:=World.ownsRow.cellAt (by rw[q1.1]at hrow;exact hrow) i (by simp;omega)
   rw[hcell]
   simp[hx,encZ]
 have hs0:=H0.out.2.2
 have s1:=b1.size
 have hB1:Below w.heap.size w w1:=H0.out.2.1.trans (b1.mono (Nat.le_of_lt hs0))
 have HB1:=hid hB1
 have H1:=hid (owns_below H0.out.1 b1)
 obtain⟨N,hN⟩:∃N,(homeKeys nb L).length=N:=⟨_,rfl⟩
 rw[hN]at hkl ⊢
 have HN:=hid hN
 clear hsr hln2 hperm hrow b1 HK HS HSo H0 k1 k1' hB1 hln hmk hN
 go_wp2_with fail
 go_loopw [3,19] (fun ov iv wr=>∃(q g' cp':Nat) (qs:List Pm),q<=N/\iv=.int .i64 (q:Int)/\ov=.slice (some ⟨g',0,none⟩) q cp'/\wr.ownsRow w.heap.size 184 2 (.slice (some ⟨g',0,none⟩) q cp') q (pmCells qs)/\(qs.map Pm.say=((homeKeys nb L).take q).map (fun (y:Nat)=>((y:Int),(L y).getD []))/\∀p∈qs,PutOf Zw w p)/\But (fun k=>k=w.heap.size) w1 wr/\(g'=w.heap.size\/w1.heap.size<=g')/\g'<wr.heap.size) (fun _ iv _=>N-(intOf iv).toNat)
 case atStart=>exact⟨0,_,_,[],Nat.zero_le _,rfl,rfl,H1.out,⟨rfl,fun p hp=>by cases hp⟩,But.refl _ _,.inl rfl,by omega⟩
 case round=>
  clear H1
  obtain⟨q,g',cp',qs,hqN,rfl,rfl,hrow,hqs,hbt,hgw,hgl⟩:=hrel
  by_cases hq:q<N
  ·have hq':(q:Int)<(N:Int):=by omega
   obtain⟨y,hy0⟩:∃y,(homeKeys nb L)[q]?=some y:=⟨_,List.getElem?_eq_getElem (by have:=HN.out;omega)⟩
   obtain⟨gk,hav,hgk,hgk1,hck⟩:=HR.out q y hy0
   obtain⟨g,cp,mk,zs,hy,ha,hL,hzg,ho,hzb⟩:=HD.out y (List.mem_of_getElem? hy0)
   have hwr:Below w.heap.size w wr:=((But.of_below HB1.out (X:=fun k=>w.heap.size<=k)).trans (hbt.mono (fun k _ e=>by omega))).below (Nat.le_refl _) (fun k hk r=>by omega)
   have ck:wr.cell? ⟨gk,q,none⟩=some (.int .i64 (y:Int)):=(hbt.cell (p:=⟨gk,q,none⟩) hgk1 (fun r=>by have r2:gk=w.heap.size:=r;omega)).trans hck
   obtain⟨k1,kLs⟩:=HWb.out wr hwr
   have kL:=kLs y g cp mk hy ha
   have hfl:=fld214 (some ⟨g,0,none⟩) 512 cp mk wr
   have HRow2:=hid (owns_below hrow ((Below.refl wr.heap.size wr).alloc (Nat.le_refl _) (.cells #[.int .i64 (y:Int),.slice (some ⟨g,0,none⟩) 512 cp] 184)))
   have HQS:=hid hqs
   have HBT:=hid hbt
   have HV:=hid (And.intro hy0 (And.intro hL (And.intro hzg (And.intro ho hzb))))
   have hws:=hwr.size
   subst hav
   clear hrow hqs hbt hwr hck hy0 ha hL hzg ho hzb kLs HR HD
   go_wp2_with (at_builtin;refine wpList_append_lies _ rfl _ _ _ rfl w.heap.size 184 i68 (.agg #[.int .i64 0,.slice none 0 0]) 2 32 Tryz.underlying129 hi68 hz68 hs68 hb68 rfl (by decide) _ q _ rfl (by exact HRow2.out) ⟨wr.heap.size,0,none⟩ 1 1 [.int .i64 (y:Int),.slice (some ⟨g,0,none⟩) 512 cp] rfl rfl (by exact news2 wr _ _ _) (by intro u hu;simp at hu;rcases hu with rfl | rfl <;> rfl) (by decide) (by unfold maxLen;omega) (by omega) (by simp;omega) (wr.heap.size+1) (by simp) ?_)
   intro g4 cap4 w6 ho4 hg4 hlie4 hl4
   have hg5:(wr.alloc (.cells #[.int .i64 (y:Int),.slice (some ⟨g,0,none⟩) 512 cp] 184)).grownBy w6 (some g'):=hg4
   have hlie5:g'=g4\/g4=wr.heap.size+1:=by
    rcases hlie4 with r | r
    ·exact .inl (by injection r)
    ·exact .inr r
   have bX:But (fun x=>x=g') wr w6:=((But.refl (fun x=>x=g') wr).alloc (.cells #[.int .i64 (y:Int),.slice (some ⟨g,0,none⟩) 512 cp] 184)).of_grown hg5 (fun x e _=>by injection e with e;exact e.symm)
   have b6:But (fun k=>k=w.heap.size) w1 w6:=HBT.out.comp bX (fun z hz e=>by rcases hgw with r | r <;> omega)
   have FIN0:=hid (And.intro ho4 (And.intro hlie5 (And.intro b6 hl4)))
   clear ho4 hg4 hg5 hlie4 hlie5 bX b6 hl4 hfl
   have FIN:Hid (w6.ownsRow w.heap.size 184 2 (.slice (some ⟨g4,0,none⟩) (q+1) cap4) (q+1) (pmCells (qs++[⟨(y:Int),some ⟨g,0,none⟩,cp,zs⟩]))/\((qs++[(⟨(y:Int),some ⟨g,0,none⟩,cp,zs⟩:Pm)]).map Pm.say=((homeKeys nb L).take (q+1)).map (fun (y:Nat)=>((y:Int),(L y).getD []))/\∀p∈qs++[(⟨(y:Int),some ⟨g,0,none⟩,cp,zs⟩:Pm)],PutOf Zw w p)/\But (fun k=>k=w.heap.size) w1 w6/\(g4=w.heap.size\/w1.heap.size<=g4)/\g4<w6.heap.size):=by
    obtain⟨hy0,hL,hzg,ho,hzb⟩:=HV.out
    have hzl:zs.length=512:=ho.len
    refine⟨?_,⟨?_,fun p hp=>?_⟩,FIN0.out.2.2.1,?_,FIN0.out.2.2.2⟩
    ·rw[pmCells_snoc]
     simp only
     rw[hzl]
     exact FIN0.out.1
    ·rw[List.map_append,HQS.out.1,List.take_add_one,hy0,List.map_append]
     show _++[((y:Int),zs)]=_++[((y:Int),(L y).getD [])]
     rw[hL]
     rfl
    ·rcases List.mem_append.1 hp with hp | hp
     ·exact HQS.out.2 p hp
     ·simp only[List.mem_singleton]at hp
      subst hp
      exact⟨g,rfl,hzg,ho,hzb,hzl⟩
    ·have:=HBT.out.size
     rcases FIN0.out.2.1 with e4 | e4
     ·rw[<- e4];exact hgw
     ·right;omega
   clear FIN0 HRow2 HBT HQS HV k1 kL ck HWb
   go_wp2_with fail
   go_roundw
   case rel=>exact⟨q+1,g4,cap4,_,by omega,by go_num,rfl,FIN.out.1,FIN.out.2.1,FIN.out.2.2⟩
   case measure=>simp[intOf];omega
  ·have hq':¬(q:Int)<(N:Int):=by omega
   have hqe:q=N:=by omega
   subst hqe
   have hglt:=World.ownsRow.lt hrow g' rfl
   have FIN:Hid (w.heap.size<=g'/\g'<wr.heap.size/\qs.map Pm.say=(homeKeys nb L).map (fun (y:Nat)=>((y:Int),(L y).getD []))/\wr.ownsRow w.heap.size 184 2 (.slice (some ⟨g',0,none⟩) q cp') q (pmCells qs)/\(∀p∈qs,PutOf Zw w p)/\Below w.heap.size w wr):=by
    refine⟨hglt.1,hgl,by rw[hqs.1,List.take_of_length_le (by rw[<- HN.out];exact Nat.le_refl _)],hrow,hqs.2,((But.of_below HB1.out (X:=fun k=>w.heap.size<=k)).trans (hbt.mono (fun k _ e=>by omega))).below (Nat.le_refl _) (fun k hk r=>by omega)⟩
   clear hrow hqs hbt HWb HR HD
   go_wp2
   go_ret
   rw[HN.out]
   exact⟨g',cp',by rfl,FIN.out.1,FIN.out.2.1,qs,FIN.out.2.2⟩
end Go.Proofs.YthfojpcibnfmgaaGreat
