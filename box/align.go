package box

import (
	"parterre/api"
	"parterre/value"
)

// alignWords are the words of AlignAuto to AlignEvenly.
func alignWords() []string {
	return []string{"auto", "normal", "start", "end", "center", "stretch", "space-between", "space-around", "space-evenly"}
}

// foreignWords mean something in CSS that is not built here.
func foreignWords() []string {
	return []string{
		"baseline", "first", "last", "safe", "unsafe", "left", "right", "flex-start", "flex-end", "self-start", "self-end", "legacy",
		"inherit", "initial", "unset", "revert",
	}
}

// Align reads how something is aligned.
func Align(l []api.Token, at, set int) (int, int, api.Errno) {
	which, next := value.Keyword(l, at, alignWords())
	if k := api.AlignAuto + which; which >= 0 && AlignGood(k, set) {
		return k, next, api.OK
	}
	if which, _ := value.Keyword(l, at, foreignWords()); which >= 0 {
		return 0, at, api.ErrFeature
	}
	return 0, at, api.ErrSyntax
}

// AlignGood tells whether something may be aligned so.
func AlignGood(k, set int) bool {
	switch set {
	case Self:
		return api.AlignAuto <= k && k <= api.AlignStretch
	case Items:
		return api.AlignNormal <= k && k <= api.AlignStretch
	case Content:
		return api.AlignNormal <= k && k <= api.AlignEvenly
	}
	return false
}

// AlignText tells its word.
func AlignText(k int) string {
	if k < api.AlignAuto || k > api.AlignEvenly {
		return ""
	}
	return alignWords()[k-api.AlignAuto]
}
